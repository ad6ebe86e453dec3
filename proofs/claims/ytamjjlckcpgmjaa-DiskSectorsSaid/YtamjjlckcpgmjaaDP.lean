/-
  A DISK's calls in a row that name no file "zz9": what stays. The WALK of play. Conditions: at most so many calls.
-/
import Derived.Test.YtamjjlckcpgmjaaDM
import Derived.Test.YtamjjlckcpgmjaaDO
namespace Go.Proofs.Ytamjjlckcpgmjaa
namespace Dk
open Mm Go.RowKit Go.ChangeShapes Go.WideShapes Go.ChangeAt
set_option linter.unusedVariables false
def zz : ByteArray := ⟨#[122, 122, 57]⟩
theorem ne_zz : (⟨#[]⟩ : ByteArray) ≠ zz := by decide
theorem inF_keep {F : ByteArray → Option Nat} {x : Nm} (h1 : x.1 ≠ zz) (h2 : x.2.1 ≠ zz) : inF F x zz = F zz := by
  unfold inF
  split
  · exact upd_other _ _ fun e => h1 e.symm
  · rw [upd_other _ _ fun e => h2 e.symm, upd_other _ _ fun e => h1 e.symm]
theorem inF_some {F : ByteArray → Option Nat} {x : Nm} {f0 : Nat} (h : x.2.2 ≠ f0) {n : ByteArray} (hn : inF F x n = some f0) : F n = some f0 := by
  unfold inF at hn
  split at hn
  · by_cases e : n = x.1
    · rw [e, upd_same] at hn; cases hn
    · rwa [upd_other _ _ e] at hn
  · by_cases e : n = x.2.1
    · rw [e, upd_same] at hn
      injection hn with hn
      exact absurd hn h
    · rw [upd_other _ _ e] at hn
      by_cases e : n = x.1
      · rw [e, upd_same] at hn; cases hn
      · rwa [upd_other _ _ e] at hn
/-- the file zz9 stays as it is -/
def Ap (f0 : Nat) (v : List Nat) (k : Nat) (s : Dsk) : Prop := s.files zz = some f0 ∧ (∀ n, s.files n = some f0 → n = zz) ∧ s.fl f0 = some (Sec.none, Sec.none.put 1 v) ∧ s.dead = false ∧ s.left = -1 ∧ s.nms.length ≤ k ∧ s.turn ≤ k ∧ ∀ g, ((s.wr g).getD []).length ≤ k
section
variable {f0 k c : Nat} {v : List Nat} {s s' : Dsk} {nm : ByteArray}
theorem Ap.mono (h : Ap f0 v k s) {j : Nat} (hj : k ≤ j) : Ap f0 v j s :=
  ⟨h.1, h.2.1, h.2.2.1, h.2.2.2.1, h.2.2.2.2.1, Nat.le_trans h.2.2.2.2.2.1 hj, Nat.le_trans h.2.2.2.2.2.2.1 hj, fun g => Nat.le_trans (h.2.2.2.2.2.2.2 g) hj⟩
theorem ap_write (h : Ap f0 v k s) (hn : nm ≠ zz) {sec : Int} {n : Nat} {l : List Nat} (hw : WriteR s nm sec n l c s') : Ap f0 v (k + 1) s' := by
  have h0 := h
  obtain ⟨a1, a2, a3, a4, a5, a6, a7, a8⟩ := h
  rcases hw with ⟨_, _, rfl⟩ | ⟨_, _, _, rfl⟩ | ⟨_, _, _, _, _, rfl⟩ | ⟨_, _, _, e, _⟩ | ⟨_, _, _, _, ⟨f, x, e1, e2, rfl⟩ | ⟨_, _, f, e, rfl⟩⟩
  · exact h0.mono (by omega)
  · exact h0.mono (by omega)
  · exact h0.mono (by omega)
  · rw [a5] at e; cases e
  · have hf : f0 ≠ f := fun e => hn (a2 nm (by rw [e]; exact e1))
    refine ⟨a1, a2, ?_, a4, ?_, Nat.le_trans a6 (by omega), Nat.succ_le_succ a7, fun g => ?_⟩
    · exact (upd_other _ _ hf).trans a3
    · show decL s.left = -1
      rw [a5]; rfl
    · show ((upd s.wr f (some ((s.wr f).getD [] ++ [⟨s.turn, f, _, l⟩])) g).getD []).length ≤ k + 1
      by_cases e : g = f
      · rw [e, upd_same]
        have := a8 f
        simpa using this
      · rw [upd_other _ _ e]; exact Nat.le_trans (a8 g) (by omega)
  · have hf : f0 ≠ f := fun e' => by rw [e', e] at a3; cases a3
    refine ⟨?_, fun n hn' => ?_, ?_, a4, ?_, ?_, Nat.succ_le_succ a7, fun g => ?_⟩
    · exact (inF_keep (F := s.files) (x := (⟨#[]⟩, nm, f)) ne_zz hn).trans a1
    · exact a2 n (inF_some (F := s.files) (x := (⟨#[]⟩, nm, f)) (fun e => hf e.symm) hn')
    · exact (upd_other _ _ hf).trans ((upd_other _ _ hf).trans a3)
    · show decL s.left = -1
      rw [a5]; rfl
    · show (s.nms ++ [((⟨#[]⟩ : ByteArray), nm, f)]).length ≤ k + 1
      rw [List.length_append]; exact Nat.succ_le_succ a6
    · show ((upd s.wr f (some ((s.wr f).getD [] ++ [⟨s.turn, f, _, l⟩])) g).getD []).length ≤ k + 1
      by_cases e : g = f
      · rw [e, upd_same]
        have := a8 f
        simpa using this
      · rw [upd_other _ _ e]; exact Nat.le_trans (a8 g) (by omega)
theorem ap_sync (h : Ap f0 v k s) (hn : nm ≠ zz) (hw : SyncR s nm c s') : Ap f0 v (k + 1) s' := by
  have h0 := h
  obtain ⟨a1, a2, a3, a4, a5, a6, a7, a8⟩ := h
  rcases hw with ⟨_, _, rfl⟩ | ⟨_, _, _, rfl⟩ | ⟨_, _, e, _⟩ | ⟨_, _, _, f, x, sf, e1, e2, hM, rfl⟩
  · exact h0.mono (by omega)
  · exact h0.mono (by omega)
  · rw [a5] at e; cases e
  · have hf : f0 ≠ f := fun e => hn (a2 nm (by rw [e]; exact e1))
    refine ⟨a1, a2, (upd_other _ _ hf).trans a3, a4, ?_, Nat.zero_le _, Nat.le_trans a7 (by omega), fun g => ?_⟩
    · show decL s.left = -1
      rw [a5]; rfl
    · show ((upd s.wr f none g).getD []).length ≤ k + 1
      by_cases e : g = f
      · rw [e, upd_same]; simp
      · rw [upd_other _ _ e]; exact Nat.le_trans (a8 g) (by omega)
theorem ap_name (h : Ap f0 v k s) {x : Nm} (h1 : x.1 ≠ zz) (h2 : x.2.1 ≠ zz) (h3 : x.2.2 ≠ f0) : Ap f0 v (k + 1) (nameS { s with left := decL s.left } x) := by
  obtain ⟨a1, a2, a3, a4, a5, a6, a7, a8⟩ := h
  refine ⟨(inF_keep h1 h2).trans a1, fun n hn => a2 n (inF_some h3 hn), a3, a4, ?_, ?_, Nat.le_trans a7 (by omega), fun g => Nat.le_trans (a8 g) (by omega)⟩
  · show decL s.left = -1
    rw [a5]; rfl
  · show (s.nms ++ [x]).length ≤ k + 1
    rw [List.length_append]; exact Nat.succ_le_succ a6
theorem ap_remove (h : Ap f0 v k s) (hn : nm ≠ zz) (hw : RemoveR s nm c s') : Ap f0 v (k + 1) s' := by
  rcases hw with ⟨_, _, rfl⟩ | ⟨_, _, _, rfl⟩ | ⟨_, _, e, _⟩ | ⟨_, _, _, f, e1, rfl⟩
  · exact h.mono (by omega)
  · exact h.mono (by omega)
  · rw [h.2.2.2.2.1] at e; cases e
  · exact ap_name h hn ne_zz fun e => hn (h.2.1 nm (by rw [← e]; exact e1))
theorem ap_rename (h : Ap f0 v k s) (hn : nm ≠ zz) {tn : ByteArray} (ht : tn ≠ zz) (hw : RenameR s nm tn c s') : Ap f0 v (k + 1) s' := by
  have h0 := h
  obtain ⟨a1, a2, a3, a4, a5, a6, a7, a8⟩ := h
  rcases hw with ⟨_, _, rfl⟩ | ⟨_, _, _, rfl⟩ | ⟨_, _, _, _, rfl⟩ | ⟨_, _, _, e, _⟩ | ⟨_, _, _, _, f, e1, ⟨_, rfl⟩ | ⟨_, rfl⟩⟩
  · exact h0.mono (by omega)
  · exact h0.mono (by omega)
  · exact h0.mono (by omega)
  · rw [a5] at e; cases e
  · exact ⟨a1, a2, a3, a4, by show decL s.left = -1; rw [a5]; rfl, Nat.le_trans a6 (by omega), Nat.le_trans a7 (by omega), fun g => Nat.le_trans (a8 g) (by omega)⟩
  · exact ap_name h0 hn ht fun e => hn (a2 nm (by rw [← e]; exact e1))
end
/-- a call's cells -/
def acC (a : Ac) (D : Option Addr) (c : Nat) : List Value := [.int .i64 a.1, .string (Pk.bstr a.2.1), .string (Pk.bstr a.2.2.1), .int .i64 a.2.2.2.1, .slice D a.2.2.2.2.length c]
theorem acC_one (a : Ac) (D : Option Addr) (c : Nat) : ∀ v ∈ acC a D c, v.oneCell' = true := fun v hv => by
  simp only [acC, List.mem_cons, List.not_mem_nil, or_false] at hv
  rcases hv with rfl | rfl | rfl | rfl | rfl <;> rfl
/-- the calls as they lie in W -/
def ActsW (W : World) (Aa : Option Addr) (L : List Ac) : Prop := 0 < L.length → ∃ b off, Aa = some ⟨b, off, none⟩ ∧ b < W.heap.size ∧ ∀ k (h : k < L.length), ∃ D c, (∀ j x, (acC L[k] D c)[j]? = some x → W.cell? ⟨b, off + (k * 5 + j), none⟩ = some x) ∧ Bs W W.heap.size D L[k].2.2.2.2.length L[k].2.2.2.2
theorem bs_of {w : World} {D : Option Addr} {c : Nat} {l : List Nat} (h : Pk.rBytes w [] [.slice D l.length c] l) : Bs w w.heap.size D l.length l := by
  obtain ⟨⟨A, c', e, -, -, h⟩, -⟩ := h
  cases e
  have hx : ∀ k (hk : k < l.length), l[k] < 256 := fun k hk => by
    obtain ⟨b, off, -, -, -, h2⟩ := h (by omega)
    obtain ⟨u, h3, -⟩ := h2 k hk
    exact h3.2
  refine ⟨rfl, fun x hm => ?_, fun h0 => ?_⟩
  · obtain ⟨k, hk, rfl⟩ := List.mem_iff_getElem.1 hm
    exact hx k hk
  · obtain ⟨b, off, rfl, h1, -, h2⟩ := h h0
    refine ⟨b, off, rfl, h1, fun k hk => ?_⟩
    obtain ⟨u, ⟨rfl, -⟩, h3⟩ := h2 k hk
    have := h3 0 _ rfl
    rw [Nat.mul_one, Nat.add_zero] at this
    rw [this, List.getD_eq_getElem?_getD, List.getElem?_eq_getElem hk]
    rfl
theorem rAct.at {w : World} {cs : List Value} {a : Ac} (h : rAct w [] cs a) : ∃ D c, cs = acC a D c ∧ Bs w w.heap.size D a.2.2.2.2.length a.2.2.2.2 := by
  obtain ⟨c1, c2, rfl, ⟨rfl, -⟩, d1, d2, rfl, ⟨rfl, -⟩, e1, e2, rfl, ⟨rfl, -⟩, f1, f2, rfl, ⟨rfl, -⟩, h5⟩ := h
  obtain ⟨D, c, rfl, -⟩ := h5.2
  exact ⟨D, c, rfl, bs_of h5⟩
theorem actsW_of {W : World} {Aa : Option Addr} {c : Nat} {L : List Ac} (h : rActs W [] [.slice Aa L.length c] L) : ActsW W Aa L := fun h0 => by
  obtain ⟨A, c', e, -, -, h⟩ := h
  cases e
  obtain ⟨b, off, rfl, h1, -, h2⟩ := h h0
  refine ⟨b, off, rfl, h1, fun k hk => ?_⟩
  obtain ⟨u, h3, h4⟩ := h2 k hk
  obtain ⟨D, cc, rfl, h5⟩ := h3.at
  exact ⟨D, cc, h4, h5⟩
def zAc : List Value := [.int .i64 0, .string ⟨#[]⟩, .string ⟨#[]⟩, .int .i64 0, .slice none 0 0]
theorem zero_ac (w : World) : (zeroValue 29).run Try.prog w = .ok (.agg zAc.toArray) w := (Try.zeroValue29 w).trans (by rfl)
/-- what play leaves -/
def PlayOut (own : Nat → Role) (A f0 : Nat) (v : List Nat) (m : Nat) (w : World) (e : Ending) (w' : World) : Prop := e = .returned (.tuple #[]) ∧ ∃ s', Ap f0 v m s' ∧ Res own A w w' s'
def PlayR (own : Nat → Role) (A f0 : Nat) (v : List Nat) (m : Nat) (w w' : World) : Prop := ∃ s', Ap f0 v m s' ∧ Res own A w w' s'
theorem Bs.dat {W w : World} {own : Nat → Role} {D : Option Addr} {n : Nat} {l : List Nat} (h : Bs W W.heap.size D n l) (hn : 0 < n) (hb : Below W.heap.size W w) (ho : ∀ b, own b ≠ .non → W.heap.size ≤ b) : Dat w own D l := by
  obtain ⟨b, off, rfl, h1, h2⟩ := h.2.2 hn
  refine ⟨b, off, rfl, ?_, Nat.lt_of_lt_of_le h1 hb.size, fun j u hj => ?_⟩
  · cases hc : own b with
    | non => rfl
    | _ => exact absurd (ho b (by rw [hc]; exact fun e => by cases e)) (by omega)
  · have hjl : j < n := by
      have := (List.getElem?_eq_some_iff.1 hj).1
      rw [by8_length, h.1] at this
      exact this
    have h3 := h2 j hjl
    rw [by8_get l j (by rw [h.1]; exact hjl)] at hj
    cases hj
    rw [← h3]
    exact World.cell?_of_block (hb.block b h1)
set_option maxRecDepth 100000 in
set_option maxHeartbeats 4000000 in
theorem play_any {W w : World} {own : Nat → Role} {A : Nat} {s : Dsk} {bf bs bw : Nat} {vn : Value} {WV : Nat → Option Value} (h : Lies w own A s bf bs bw vn WV) (hbW : Below W.heap.size W w) (ho : ∀ b, own b ≠ .non → W.heap.size ≤ b)
    {f0 m : Nat} {v : List Nat} (hap : Ap f0 v m s) (Aa : Option Addr) (cap : Nat) (L : List Ac) (hW : ActsW W Aa L) (hz1 : ∀ a ∈ L, Pk.bstr a.2.1 ≠ zz ∧ Pk.bstr a.2.2.1 ≠ zz) (hm : m + L.length ≤ 1000000) :
    Calls Try.prog 10 #[ekP A, .slice Aa L.length cap] w (PlayOut own A f0 v (m + L.length) w) := by
  have HH := Lib.hid (And.intro hbW (And.intro ho (And.intro hW hz1)))
  have H0 : PlayR own A f0 v (m + 0) w w := ⟨s, hap, own, bf, bs, bw, vn, WV, h, Tn.refl _ _, fun b hb => .inl hb⟩
  clear hbW ho hW hz1 h hap
  obtain ⟨N, hN⟩ : ∃ N, N = L.length := ⟨_, rfl⟩
  rw [← hN] at hm ⊢
  have HN := Lib.hid (And.intro hN hm)
  clear hN hm
  unfold ekP
  go_enter Try.func10, Try.ntmps10
  go_wp2_with fail
  go_loopw [4] (fun i wr => ∃ k : Nat, k ≤ N ∧ i = .int .i64 k ∧ PlayR own A f0 v (m + k) w wr) (fun i _ => N - (intOf i).toNat)
  case atStart => exact ⟨0, by omega, rfl, H0⟩
  case round =>
    obtain ⟨k, hk, rfl, hP⟩ := hrel
    by_cases hlt : k < N
    · obtain ⟨s1, hap, own1, bf1, bs1, bw1, vn1, WV1, hL, ht, hf⟩ := hP
      obtain ⟨hbW, ho, hW, hz1⟩ := HH.out
      have hNL := HN.out.1
      have hNm := HN.out.2
      obtain ⟨g, off, rfl, hg, hAt⟩ := hW (by omega)
      obtain ⟨D, cc, hcl, hBs⟩ := hAt k (by omega)
      have hnz := hz1 L[k] (List.getElem_mem _)
      obtain ⟨a, ha⟩ : ∃ a, a = L[k] := ⟨_, rfl⟩
      rw [← ha] at hcl hBs hnz
      have ho1 : ∀ b, own1 b ≠ .non → W.heap.size ≤ b := fun b hb => (hf b hb).elim (ho b) fun e => Nat.le_trans hbW.size e
      have hbr : Below W.heap.size W wr := hbW.trans (ht.below hbW.size ho)
      have hgc : ∀ j x, (acC a D cc)[j]? = some x → wr.cell? ((⟨g, off + k * 5, none⟩ : Addr).add j) = some x := fun j x hj => by
        rw [add_plain, ← hcl j x hj, Nat.add_assoc]
        exact World.cell?_of_block (hbr.block g hg)
      have hi5 : (Try.prog.info? 29).map (·.size) = some 5 := by kernel_rfl
      have hz := zero_ac wr
      have t1 : Tn (fun b => own1 b ≠ .non) wr (wr.alloc (.cells (acC a D cc).toArray 29)) := Tn.alloc _ _ _
      have hL2 := hL.kept (Tn.alloc (fun _ => False) wr (.cells (acC a D cc).toArray 29)) (fun _ _ e => e)
      have hb2 : Below W.heap.size W (wr.alloc (.cells (acC a D cc).toArray 29)) := hbr.alloc hbr.size _
      have row := heap_alloc_last wr (.cells (acC a D cc).toArray 29)
      have e0 : (wr.alloc (.cells (acC a D cc).toArray 29)).cell? ⟨wr.heap.size, 0, none⟩ = some (.int .i64 a.1) := by rw [cell_of_row _ _ _ _ _ _ row]; rfl
      have e1 : (wr.alloc (.cells (acC a D cc).toArray 29)).cell? ⟨wr.heap.size, 1, none⟩ = some (.string (Pk.bstr a.2.1)) := by rw [cell_of_row _ _ _ _ _ _ row]; rfl
      have e2 : (wr.alloc (.cells (acC a D cc).toArray 29)).cell? ⟨wr.heap.size, 2, none⟩ = some (.string (Pk.bstr a.2.2.1)) := by rw [cell_of_row _ _ _ _ _ _ row]; rfl
      have e3 : (wr.alloc (.cells (acC a D cc).toArray 29)).cell? ⟨wr.heap.size, 3, none⟩ = some (.int .i64 a.2.2.2.1) := by rw [cell_of_row _ _ _ _ _ _ row]; rfl
      have e4 : (wr.alloc (.cells (acC a D cc).toArray 29)).cell? ⟨wr.heap.size, 4, none⟩ = some (.slice D a.2.2.2.2.length cc) := by rw [cell_of_row _ _ _ _ _ _ row]; rfl
      have hlf : s1.left < 4611686018427387904 := by rw [hap.2.2.2.2.1]; decide
      have hw1 := Write_any hL2 hlf (Pk.bstr a.2.1) a.2.2.2.1 D a.2.2.2.2.length cc a.2.2.2.2 rfl hBs.2.1 (fun e => Bs.dat hBs (by omega) hb2 ho1) (Nat.le_trans hap.2.2.2.2.2.1 (by omega)) (fun f => Nat.le_trans (hap.2.2.2.2.2.2.2 f) (by omega)) (Nat.le_trans hap.2.2.2.2.2.2.1 (by omega))
      have hs1 := Sync_any hL2 hlf (Pk.bstr a.2.1)
      have hr1 := Rename_any hL2 hlf (Nat.le_trans hap.2.2.2.2.2.1 (by omega)) (Pk.bstr a.2.1) (Pk.bstr a.2.2.1)
      have hd1 := Remove_any hL2 hlf (Nat.le_trans hap.2.2.2.2.2.1 (by omega)) (Pk.bstr a.2.1)
      have k0 : (0 : Int) ≤ (k : Int) := by omega
      have kN : (k : Int) < (N : Int) := by omega
      have kM : (k : Int) + 1 ≤ 9000000000000000000 := by omega
      have ht2 := ht.then t1 hf
      have hres2 : Res own A w (wr.alloc (.cells (acC a D cc).toArray 29)) s1 := ⟨own1, bf1, bs1, bw1, vn1, WV1, hL2, ht2, hf⟩
      have HR2 := Lib.hid hres2
      have HR := Lib.hid (And.intro hap (And.intro ht2 (And.intro hf hnz)))
      clear hres2
      clear hap ht hf hnz hbW ho hW hz1 hNL hNm hAt hcl hBs ha ho1 hbr t1 hL2 hb2 row hlf hL ht2
      unfold ekP at hw1 hs1 hr1 hd1
      obtain ⟨kind, hkd⟩ : ∃ kind, kind = a.1 := ⟨_, rfl⟩
      rw [← hkd] at e0
      clear hkd
      by_cases k1 : kind = 1
      · subst k1
        go_wp2_with (first | refine Pk.wpList_load_at rfl 29 _ rfl ⟨g, off + k * 5, none⟩ rfl (acC a D cc) _ hgc Try.underlying29 rfl hi5 ?_ | refine wpList_zvar rfl 29 rfl zAc hz ?_ | refine wpList_svar rfl 29 _ _ rfl wr 29 zAc (acC a D cc) rfl rfl rfl hi5 rfl (acC_one _ _ _) ?_ | (go_at_call 8; refine (hw1).mono ?_; rintro e w5 ⟨c5, s5, rfl, hR, hRes⟩))
        refine ⟨⟨k + 1, by omega, by go_num, s5, ap_write HR.out.1 HR.out.2.2.2.1 hR, Res.of hRes HR.out.2.1 HR.out.2.2.1⟩, by simp [intOf]; omega⟩
      by_cases k4 : kind = 4
      · subst k4
        go_wp2_with (first | refine Pk.wpList_load_at rfl 29 _ rfl ⟨g, off + k * 5, none⟩ rfl (acC a D cc) _ hgc Try.underlying29 rfl hi5 ?_ | refine wpList_zvar rfl 29 rfl zAc hz ?_ | refine wpList_svar rfl 29 _ _ rfl wr 29 zAc (acC a D cc) rfl rfl rfl hi5 rfl (acC_one _ _ _) ?_ | (go_at_call 14; refine (hs1).mono ?_; rintro e w5 ⟨c5, s5, rfl, hR, hRes⟩))
        refine ⟨⟨k + 1, by omega, by go_num, s5, ap_sync HR.out.1 HR.out.2.2.2.1 hR, Res.of hRes HR.out.2.1 HR.out.2.2.1⟩, by simp [intOf]; omega⟩
      by_cases k5 : kind = 5
      · subst k5
        go_wp2_with (first | refine Pk.wpList_load_at rfl 29 _ rfl ⟨g, off + k * 5, none⟩ rfl (acC a D cc) _ hgc Try.underlying29 rfl hi5 ?_ | refine wpList_zvar rfl 29 rfl zAc hz ?_ | refine wpList_svar rfl 29 _ _ rfl wr 29 zAc (acC a D cc) rfl rfl rfl hi5 rfl (acC_one _ _ _) ?_ | (go_at_call 17; refine (hr1).mono ?_; rintro e w5 ⟨c5, s5, rfl, hR, hRes⟩))
        refine ⟨⟨k + 1, by omega, by go_num, s5, ap_rename HR.out.1 HR.out.2.2.2.1 HR.out.2.2.2.2 hR, Res.of hRes HR.out.2.1 HR.out.2.2.1⟩, by simp [intOf]; omega⟩
      by_cases k6 : kind = 6
      · subst k6
        go_wp2_with (first | refine Pk.wpList_load_at rfl 29 _ rfl ⟨g, off + k * 5, none⟩ rfl (acC a D cc) _ hgc Try.underlying29 rfl hi5 ?_ | refine wpList_zvar rfl 29 rfl zAc hz ?_ | refine wpList_svar rfl 29 _ _ rfl wr 29 zAc (acC a D cc) rfl rfl rfl hi5 rfl (acC_one _ _ _) ?_ | (go_at_call 18; refine (hd1).mono ?_; rintro e w5 ⟨c5, s5, rfl, hR, hRes⟩))
        refine ⟨⟨k + 1, by omega, by go_num, s5, ap_remove HR.out.1 HR.out.2.2.2.1 hR, Res.of hRes HR.out.2.1 HR.out.2.2.1⟩, by simp [intOf]; omega⟩
      have d1 : decide (kind = 1) = false := by simp [k1]
      have d4 : decide (kind = 4) = false := by simp [k4]
      have d5 : decide (kind = 5) = false := by simp [k5]
      have d6 : decide (kind = 6) = false := by simp [k6]
      have b1 : (kind == 1) = false := by simp [k1]
      have b4 : (kind == 4) = false := by simp [k4]
      have b5 : (kind == 5) = false := by simp [k5]
      have b6 : (kind == 6) = false := by simp [k6]
      clear k1 k4 k5 k6
      go_wp2_with (first | refine Pk.wpList_load_at rfl 29 _ rfl ⟨g, off + k * 5, none⟩ rfl (acC a D cc) _ hgc Try.underlying29 rfl hi5 ?_ | refine wpList_zvar rfl 29 rfl zAc hz ?_ | refine wpList_svar rfl 29 _ _ rfl wr 29 zAc (acC a D cc) rfl rfl rfl hi5 rfl (acC_one _ _ _) ?_ | (go_at_call 18; refine (hd1).mono ?_; rintro e w5 ⟨c5, s5, rfl, hR, hRes⟩))
      exact ⟨⟨k + 1, by omega, by go_num, s1, HR.out.1.mono (by omega), HR2.out⟩, by simp [intOf]; omega⟩
    · obtain rfl : N = k := by omega
      go_wp2_with fail
      go_end0
      exact ⟨rfl, hP⟩
end Dk
end Go.Proofs.Ytamjjlckcpgmjaa
