/-
  THE WALK of the document's Copy: rows in blocks of their own ('Gq'), that read as what was copied, and that may be written ('Gr'). Conditions: what is read as rows.
-/
import Derived.Test.YtmaekebebllncaaMZ
import Derived.Test.YtmaekebebllncaaMAssociates
namespace Go.Proofs.Ytmaekebebllncaa
open Go.ChangeShapes Go.WideShapes Go.ChangeAt Go.RowKit Gf

/-- v is a row of the call's own whose cells are rows of bytes of the call's own, each apart from all others -/
def Gq (w : World) (base : Nat) (e u : TypeId) (v : Value) (n : Nat) (M : List (List Nat)) : Prop :=
  ∃ us : Nat → Value, w.ownsRow base e 1 v n ((List.range n).map us) ∧
    (∀ k, k < n → w.ownsRow base u 1 (us k) (M.getD k []).length (by8 (M.getD k [])) ∧ ∀ b, (us k).ownBlock = some b → v.ownBlock ≠ some b) ∧
    ∀ k l b, k < n → l < n → (us k).ownBlock = some b → (us l).ownBlock = some b → k = l
section
variable {w w' : World} {base n R C g : Nat} {e u : TypeId} {v : Value} {M : List (List Nat)} {xs : List Value}
theorem ownsRow_on (h : w.ownsRow base e 1 v n xs) (hb : Below w.heap.size w w') : w'.ownsRow base e 1 v n xs := by
  refine ⟨h.1, ?_⟩
  rcases h.2 with h0 | ⟨g, cap, cur, hv, hB, hg, r⟩
  · exact Or.inl h0
  · exact Or.inr ⟨g, cap, cur, hv, hB, by rw [hb.block g (Array.getElem?_eq_some_iff.1 hg).1]; exact hg, r⟩
theorem Gq.nil (w : World) (base : Nat) (e u : TypeId) (M : List (List Nat)) : Gq w base e u (.slice none 0 0) 0 M :=
  ⟨fun _ => .slice none 0 0, World.ownsRow_nil _ _ _ _, fun k hk => by omega, fun k l b hk => by omega⟩
theorem Gq.on (h : Gq w base e u v n M) (hb : Below w.heap.size w w') : Gq w' base e u v n M := by
  obtain ⟨us, hown, hr, hinj⟩ := h
  exact ⟨us, ownsRow_on hown hb, fun k hk => ⟨ownsRow_on (hr k hk).1 hb, (hr k hk).2⟩, hinj⟩
theorem ownsRow_base {base' : Nat} (h : w.ownsRow base e 1 v n xs) (hb : base' ≤ base) : w.ownsRow base' e 1 v n xs := by
  refine ⟨h.1, ?_⟩
  rcases h.2 with h0 | ⟨g, cap, cur, hv, hB, r⟩
  · exact Or.inl h0
  · exact Or.inr ⟨g, cap, cur, hv, by omega, r⟩
/-- it reads as rows -/
theorem Gq.mq (h : Gq w base e u v n M) (hn : M.length = n) (hl : ∀ k, k < n → (M.getD k []).length ≤ reach) (hb : ∀ k, k < n → ∀ x ∈ M.getD k [], x < 256) : Mq w base e v M := by
  obtain ⟨us, hown, hr, hinj⟩ := h
  subst hn
  refine ⟨_, hown, fun k hk => ⟨us k, by simp [List.getElem?_range hk], ?_, fun A m c a e1 hm hA e2 => ?_⟩⟩
  · obtain ⟨A, c, h1, h2, h3⟩ := Bs.of_own_cap (hr k hk).1 (hb k hk)
    rw [h1]
    exact Rd.mk h2 (hl k hk) h3
  · exact (hr k hk).2 a.block (by rw [e1, hA]; rfl) e2
/-- its cells may be written -/
theorem Gq.gr (h : Gq w base e u v R M) (hR : 0 < R) (hC : 0 < C) (hl : ∀ k, k < R → (M.getD k []).length = C) : ∃ g c, v = .slice (some ⟨g, 0, none⟩) R c ∧ R ≤ c ∧ Gr w base e u g R C (ent M) := by
  obtain ⟨us, hown, hr, hinj⟩ := h
  rcases hown.2 with ⟨_, h0⟩ | ⟨g, cap, cur, rfl, hb, hg, hnc, hm, hcs, ht⟩
  · omega
  · have each : ∀ k, k < R → ∃ y : Nat × Nat, us k = .slice (some ⟨y.1, 0, none⟩) C y.2 ∧ C ≤ y.2 ∧ base ≤ y.1 ∧ ∃ cr : Array Value, w.heap[y.1]? = some (.cells cr u (0, 0)) ∧ ∀ j, j < C → cr[j]? = some (.int .u8 (ent M k j : Nat)) := fun k hk => by
      have h1 := (hr k hk).1
      have h2 := hl k hk
      rcases h1.2 with ⟨_, h0⟩ | ⟨g2, cap2, cur2, e2, hb2, hg2, hnc2, hm2, hcs2, ht2⟩
      · omega
      · refine ⟨(g2, cap2), by rw [e2, h2], by omega, hb2, cur2, hg2, fun j hj => ?_⟩
        have h3 := by8_get (M.getD k []) j (by omega)
        rw [← ht2, List.getElem?_take, if_pos (by omega)] at h3
        show cur2[j]? = some (.int .u8 (((M.getD k []).getD j 0 : Nat) : Int))
        simpa using h3
    obtain ⟨y, hy⟩ : ∃ y : Nat → Nat × Nat, ∀ k, k < R → us k = .slice (some ⟨(y k).1, 0, none⟩) C (y k).2 ∧ C ≤ (y k).2 ∧ base ≤ (y k).1 ∧ ∃ cr : Array Value, w.heap[(y k).1]? = some (.cells cr u (0, 0)) ∧ ∀ j, j < C → cr[j]? = some (.int .u8 (ent M k j : Nat)) :=
      ⟨fun k => if hk : k < R then Classical.choose (each k hk) else (0, 0), fun k hk => by
        simp only [hk, dif_pos]
        exact Classical.choose_spec (each k hk)⟩
    refine ⟨g, cap, rfl, hnc, hb, fun k => (y k).1, fun k => (y k).2, cur, hg, fun k hk => ?_, fun k l hk hl' e1 => ?_⟩
    · obtain ⟨h1, h2, h3, h4⟩ := hy k hk
      refine ⟨?_, h2, h3, fun e1 => (hr k hk).2 (y k).1 (by rw [h1]; rfl) (by dsimp only at e1; rw [e1]; rfl), h4⟩
      have h5 : ((List.range R).map us)[k]? = some (us k) := by simp [List.getElem?_range hk]
      rw [← ht, List.getElem?_take, if_pos (by omega), h1] at h5
      simpa using h5
    · exact hinj k l (y k).1 hk hl' (by rw [(hy k hk).1]; rfl) (by dsimp only at e1; rw [(hy l hl').1, e1]; rfl)
end

set_option maxRecDepth 100000 in
set_option maxHeartbeats 2000000 in
theorem rCopy_any (A : Option Addr) (n c B : Nat) (M : List (List Nat)) (hn : n * 24 ≤ 140737488351232) (w : World) (h : Ms w B A n M) (hB : B ≤ w.heap.size) :
    Calls Try.prog 74 #[.slice A n c] w fun e w' => ∃ v, e = .returned v ∧ Gq w' w.heap.size 22 5 v n M ∧ Below w.heap.size w w' := by
  obtain ⟨i0, hi0, hz0, hz1, hz2⟩ := info_parts info22
  have H := Lib.hid h
  clear h
  go_enter Try.func74, Try.ntmps74
  go_wp2_with fail
  go_loopw [3, 4] (fun v x wr => ∃ k : Nat, k ≤ n ∧ x = .int .i64 k ∧ Gq wr w.heap.size 22 5 v k M ∧ Below w.heap.size w wr) (fun _ x _ => n - (intOf x).toNat)
  case atStart => exact ⟨0, by omega, rfl, Gq.nil _ _ _ _ _, Below.refl _ _⟩
  case round =>
    obtain ⟨k, hk, rfl, hgq, hbl⟩ := hrel
    by_cases hlt : k < n
    · have hs := hbl.size
      have hr := H.out.below (hbl.mono hB)
      obtain ⟨b3, off3, A3, c3, rfl, hb3, hv3, hbs3, hre3, hcap3⟩ := hr.row k hlt
      obtain ⟨L, hL⟩ : ∃ L, M.getD k [] = L := ⟨_, rfl⟩
      rw [hL] at hv3 hbs3 hre3
      obtain ⟨x, hx⟩ : ∃ x, L.length = x := ⟨_, rfl⟩
      rw [hx] at hv3 hbs3 hre3
      unfold reach at hre3
      have hcp := copy_own A3 x c3 B L (by omega) wr hbs3 (Nat.le_trans hB hs)
      obtain ⟨us, hown, hr, hinj⟩ := hgq
      have hltb := hown.lt
      have hold : ∀ l b, l < k → (us l).ownBlock = some b → b < wr.heap.size := fun l b hl hb => ((hr l hl).1.lt b hb).2
      have hLlt := hbs3.2.1
      have HQ := Lib.hid (And.intro hr (And.intro hinj (And.intro hold (And.intro hL hx))))
      clear hr hinj hold hL hx hbs3
      go_wp2_with fail
      refine hcp.mono ?_
      rintro e w2 ⟨v2, rfl, hown2, hb2⟩
      obtain ⟨A2, c2, rfl, -⟩ := Bs.of_own hown2 hLlt
      have hs2 := hb2.size
      have hlt2 := hown2.lt
      have hba : Below w2.heap.size w2 (w2.alloc (.cells #[.slice A2 x c2] 22)) := (Below.refl _ _).alloc (Nat.le_refl _) _
      have hownA := ownsRow_on (ownsRow_on hown hb2) hba
      have hown2A := ownsRow_on hown2 hba
      have hcell : (w2.alloc (.cells #[.slice A2 x c2] 22)).cell? ⟨w2.heap.size, 0, none⟩ = some (.slice A2 x c2) := by rw [World.cell?_alloc_new]; rfl
      have hnews : ∀ (j : Nat) (z : Value), [Value.slice A2 x c2][j]? = some z → (w2.alloc (.cells #[.slice A2 x c2] 22)).cell? ((⟨w2.heap.size, 0, none⟩ : Addr).add j) = some z := fun j z hj => by
        cases j with
        | zero =>
          injection hj with hj
          subst hj
          exact hcell
        | succ j => simp at hj
      have hone : ∀ z ∈ [Value.slice A2 x c2], z.oneCell' = true := fun z hz => by
        obtain rfl : z = .slice A2 x c2 := by simpa using hz
        rfl
      have hbo : w.heap.size ≤ (w2.alloc (.cells #[.slice A2 x c2] 22)).heap.size := by simp; omega
      have hxs : ((List.range k).map us) ++ [.slice A2 x c2] = (List.range (k + 1)).map fun l => if l = k then .slice A2 x c2 else us l := by
        rw [List.range_succ, List.map_append, List.map_singleton, if_pos rfl]
        congr 1
        refine List.map_congr_left fun l hl => ?_
        rw [if_neg (by have := List.mem_range.1 hl; omega)]
      clear hcp hown hown2 hcell
      go_wp2_with (at_builtin; refine wpList_append_lies _ rfl (.tmp 11) (.tmp 17) _ rfl w.heap.size 22 i0 (.slice none 0 0) 1 24 Try.underlying24 hi0 hz0 hz1 hz2 rfl (by decide) _ k _ rfl hownA ⟨w2.heap.size, 0, none⟩ 1 1 [.slice A2 x c2] rfl rfl hnews hone (by omega) (by simp only [maxLen]; omega) (by omega) hbo _ rfl ?_; intro g cap w3 hown3 hgrow hat hlt3)
      rw [hxs] at hown3
      have hbw := ((hbl.trans (hb2.mono hs)).trans (hba.mono (by omega))).grown hgrow hbo (fun q hq => (hltb q hq).1)
      obtain ⟨hr, hinj, hold, hL, hx⟩ := HQ.out
      have hgl : g = w2.heap.size + 1 ∨ u3.ownBlock = some g := by
        rcases hat with h | h
        · exact .inr h
        · exact .inl (by rw [h]; simp)
      refine ⟨⟨k + 1, by omega, by go_num, ⟨_, hown3, fun l hl => ?_, fun a b q ha hb e1 e2 => ?_⟩, hbw⟩, by simp [intOf]; omega⟩
      · by_cases hlk : l = k
        · rw [if_pos hlk]
          subst hlk
          refine ⟨?_, fun b hb e1 => ?_⟩
          · rw [hL, hx]
            refine (ownsRow_base hown2A hs).kept hgrow ?_
            rcases hv : (Value.slice A2 x c2).ownBlock with _ | b
            · exact .inl rfl
            · refine .inr fun e1 => ?_
              have h1 := (hlt2 b hv).1
              have h2 := (hltb b e1.symm).2
              omega
          · have h1 := hlt2 b hb
            simp only [Value.ownBlock, Option.some.injEq] at e1
            rcases hgl with h | h
            · omega
            · have := (hltb g h).2
              omega
        · rw [if_neg hlk]
          obtain ⟨h1, h2⟩ := hr l (by omega)
          refine ⟨?_, fun b hb e1 => ?_⟩
          · refine (ownsRow_on (ownsRow_on h1 hb2) hba).kept hgrow ?_
            rcases hv : (us l).ownBlock with _ | b
            · exact .inl rfl
            · exact .inr fun e1 => h2 b hv e1.symm
          · have h3 := hold l b (by omega) hb
            simp only [Value.ownBlock, Option.some.injEq] at e1
            rcases hgl with h | h
            · omega
            · exact h2 b hb (by rw [h, e1])
      · by_cases hak : a = k
        · by_cases hbk : b = k
          · omega
          · rw [if_pos hak] at e1
            rw [if_neg hbk] at e2
            have h1 := (hlt2 q e1).1
            have h2 := hold b q (by omega) e2
            omega
        · by_cases hbk : b = k
          · rw [if_neg hak] at e1
            rw [if_pos hbk] at e2
            have h1 := (hlt2 q e2).1
            have h2 := hold a q (by omega) e1
            omega
          · rw [if_neg hak] at e1
            rw [if_neg hbk] at e2
            exact hinj a b q (by omega) (by omega) e1 e2
    · obtain rfl : n = k := by omega
      have HG := Lib.hid hgq
      clear hgq
      go_wp2_with fail
      go_ret
      exact ⟨_, rfl, HG.out, hbl⟩
end Go.Proofs.Ytmaekebebllncaa
