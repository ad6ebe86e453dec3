/-
  THE WALKS of the document's Frame, word, Next, All. Conditions: bytes lie below 256; All: at most 2^45 of them.
-/
import Derived.Test.YtdfkapehjmmnoaaGreatDoorWX
import Derived.Test.YtdfkapehjmmnoaaGreatDoorOI
import Derived.BigQuiet
import Derived.Deep.QuietTactic
namespace Go.Proofs.YtdfkapehjmmnoaaGreatDoor
open Go.RowKit Go.ChangeShapes Go.WideShapes Go.ChangeAt
namespace Pk
open Oc
section
variable {P : Program} {w w' : World} {B n c m k : Nat} {A : Option Addr} {l : List Nat}
theorem slice_mid {T : TypeId} (hT : P.underlying T = some (.slice (P.elem T))) (he : ∀ w, (sizeOf (P.elem T)).run P w = .ok 1 w) (h : Bs w B A n l) (hm : m ≤ k) (hk : k ≤ n) (hc : n ≤ c) :
    ∃ A', (∀ w, (Instr.slice T (.slice A n c) (some (.int .i64 (m : Int))) (some (.int .i64 (k : Int))) none).run P w = .ok (.slice A' (k - m) (c - m)) w) ∧ Bs w B A' (k - m) ((l.drop m).take (k - m)) := by
  refine ⟨if c = m then A else A.map (·.add (m * 1)), fun w => ?_, by simp [h.1]; omega, fun x hx => h.2.1 x (List.mem_of_mem_drop (List.mem_of_mem_take hx)), fun hn => ?_⟩
  · rw [run_slice_lh w T A n c hT .i64 .i64 (m : Int) (k : Int) (by omega) (by omega) (by omega), he]
    simp [Result.andThen, sliced]
  · obtain ⟨b, off, rfl, hb, hq⟩ := h.2.2 (by omega)
    refine ⟨b, off + m, ?_, hb, fun j hj => ?_⟩
    · rw [if_neg (by omega)]
      simp [Addr.add]
    · rw [Nat.add_assoc, hq (m + j) (by omega)]
      simp [List.getD_eq_getElem?_getD, List.getElem?_drop, hj]
end
theorem or_8 (a x : Nat) (ha : a < 256) (hx : x < 256) : bits .or .u32 (a : Int) ((x : Int) * 256) = ((a + x * 256 : Nat) : Int) := by
  have := (or_next a x 1 (by simpa using ha) hx (by decide)).1
  have e : (x : Int) * 2 ^ (8 * 1) % 4294967296 = (x : Int) * 256 := by simp; omega
  rw [e] at this
  simpa using this
theorem or_16 (a x : Nat) (ha : a < 65536) (hx : x < 256) : bits .or .u32 (a : Int) ((x : Int) * 65536) = ((a + x * 65536 : Nat) : Int) := by
  have := (or_next a x 2 (by simpa using ha) hx (by decide)).1
  have e : (x : Int) * 2 ^ (8 * 2) % 4294967296 = (x : Int) * 65536 := by simp; omega
  rw [e] at this
  simpa using this
theorem or_24 (a x : Nat) (ha : a < 16777216) (hx : x < 256) : bits .or .u32 (a : Int) ((x : Int) * 16777216) = ((a + x * 16777216 : Nat) : Int) := by
  have := (or_next a x 3 (by simpa using ha) hx (by decide)).1
  have e : (x : Int) * 2 ^ (8 * 3) % 4294967296 = (x : Int) * 16777216 := by simp; omega
  rw [e] at this
  simpa using this
set_option maxRecDepth 100000 in
set_option maxHeartbeats 1000000 in
theorem rdw_any (A : Option Addr) (n c B : Nat) (l : List Nat) (hn : 4 ≤ n) (w : World) (h : Bs w B A n l) :
    Calls Tryz.prog 34 #[.slice A n c] w fun e w' => e = .returned (.int .u32 (unw l 0 : Nat)) ∧ ∃ k, w' = w.drewN k := by
  obtain ⟨b, off, rfl, hb, hc⟩ := h.2.2 (by omega)
  have c0 : w.cell? ⟨b, off, none⟩ = some (.int .u8 (l.getD 0 0 : Nat)) := by simpa using hc 0 (by omega)
  have c1 := hc 1 (by omega)
  have c2 := hc 2 (by omega)
  have c3 := hc 3 (by omega)
  have l0 := h.lt 0
  have l1 := h.lt 1
  have l2 := h.lt 2
  have l3 := h.lt 3
  have HU := Lib.hid (show unw l 0 = l.getD 0 0 + 256 * l.getD 1 0 + 65536 * l.getD 2 0 + 16777216 * l.getD 3 0 from rfl)
  obtain ⟨x0, h0⟩ : ∃ x, l.getD 0 0 = x := ⟨_, rfl⟩
  obtain ⟨x1, h1⟩ : ∃ x, l.getD 1 0 = x := ⟨_, rfl⟩
  obtain ⟨x2, h2⟩ : ∃ x, l.getD 2 0 = x := ⟨_, rfl⟩
  obtain ⟨x3, h3⟩ : ∃ x, l.getD 3 0 = x := ⟨_, rfl⟩
  rw [h0] at c0 l0 HU
  rw [h1] at c1 l1 HU
  rw [h2] at c2 l2 HU
  rw [h3] at c3 l3 HU
  clear h0 h1 h2 h3 hc h
  go_enter Tryz.func34, Tryz.ntmps34
  go_wp2_with fail
  go_quiet (fail)
  go_wp2_with fail
  go_ret
  refine ⟨ret_int ?_, _, rfl⟩
  rw [HU.out, or_8 x0 x1 l0 l1, or_16 _ x2 (by omega) l2, or_24 _ x3 (by omega) l3]
  omega
theorem rwordO_any (v : Nat) (hv : v < 2 ^ 32) (w : World) :
    Calls Tryz.prog 32 #[.int .u32 (v : Int)] w (Own (word v) w) := by
  go_enter Tryz.func32, Tryz.ntmps32
  go_wp2
  go_ret
  exact ⟨.slice (some ⟨w.heap.size, 0, none⟩) 4 4, rfl, ⟨rfl, Or.inr ⟨w.heap.size, 4, _, rfl, Nat.le_refl _, heap_alloc_new _ _, Nat.le_refl 4, by decide, rfl, by simp [by8, word]⟩⟩, (Below.refl _ _).alloc (Nat.le_refl _) _⟩
def GivesE (l : List Nat) (w : World) (e : Ending) (w' : World) : Prop := ∃ (m : Nat) (A : Option Addr) (c : Nat), e = .returned (.tuple #[.slice A m c, .int .i64 0]) ∧ Bs w' w'.heap.size A m l ∧ m ≤ c ∧ Below w.heap.size w w'
set_option maxRecDepth 100000 in
theorem rFrame_big (A : Option Addr) (n c : Nat) (hn : 4194304 < n) (w : World) :
    Calls Tryz.prog 16 #[.slice A n c] w fun e w' => e = .returned (.tuple #[.slice none 0 0, .int .i64 60]) ∧ w = w' := by
  have e1 : decide ((n : Int) > 4194304) = true := by simp; omega
  have e2 : decide ((4194304 : Int) < n) = true := by simp; omega
  go_enter Tryz.func16, Tryz.ntmps16
  go_wp2_with fail
  go_ret2
  exact ⟨rfl, rfl⟩
set_option maxRecDepth 100000 in
set_option maxHeartbeats 2000000 in
theorem rFrame_ok (A : Option Addr) (n c : Nat) (l : List Nat) (hn : n ≤ 4194304) (w : World) (h : Bs w w.heap.size A n l) :
    Calls Tryz.prog 16 #[.slice A n c] w (GivesE (frm l) w) := by
  have e1 : decide ((n : Int) > 4194304) = false := by simp; omega
  have e2 : decide ((4194304 : Int) < n) = false := by simp; omega
  have hlen := h.1
  have hw1 : ∀ x ∈ word n, x < 256 := word_lt n (by omega)
  have hcb : crc l < 2 ^ 32 := crc_lt _ h.2.1
  have hcw : crc (word n) < 2 ^ 32 := crc_lt _ hw1
  have hcrcw := fun (A : Option Addr) (c B : Nat) (w : World) (hb : Bs w B A 4 (word n)) => rcrc_any A 4 c B (word n) (by decide) w hb
  have HB := Lib.hid (frm_byte l (by rw [hlen]; exact hn) h.2.1)
  have HN := Lib.hid (show frm l = (word n ++ word (crc (word n))) ++ (l ++ word (crc l)) by simp only [frm, hlen, List.append_assoc])
  clear hlen
  obtain ⟨cw, hcwe⟩ : ∃ x, crc (word n) = x := ⟨_, rfl⟩
  obtain ⟨cb, hcbe⟩ : ∃ x, crc l = x := ⟨_, rfl⟩
  rw [hcwe] at hcw HN hcrcw
  rw [hcbe] at hcb HN
  have HC := Lib.hid hcbe
  clear hcwe hcbe
  obtain ⟨L, hL⟩ : ∃ L, frm l = L := ⟨_, rfl⟩
  rw [hL] at HN HB ⊢
  clear hL
  go_enter Tryz.func16, Tryz.ntmps16
  go_wp2_with fail
  refine (rwordO_any n (by omega) _).mono ?_
  rintro e w1 ⟨v1, rfl, hown1, hb1⟩
  obtain ⟨A1, c1, rfl, hbs1, hc1⟩ := of_own_cap hown1 hw1
  have h1 := h.on hb1
  rw [word_len] at hown1 hbs1 hc1 ⊢
  go_wp2_with fail
  refine (hcrcw A1 c1 _ _ hbs1).mono ?_
  rintro e w2 ⟨rfl, rfl⟩
  go_wp2_with fail
  refine (rword_any cw hcw _).mono ?_
  rintro e w2 ⟨A2, c2, rfl, hbs2, hc2, hb2⟩
  have h2 := h1.on hb2
  have hb12 := below2 hb1 hb2
  have hown2 := own_kept hown1 (Keeps.of_below [] hb2) (by simp)
  have hlt2 := hown2.lt
  rw [word_len] at hbs2 hc2 ⊢
  clear hown1 hbs1 hb1 hb2 h1
  go_wp2_with (first
    | (at_builtin; refine wpList_append_bytes rfl (.tmp 12) (.tmp 15) _ rfl w.heap.size 5 Tryz.underlying23 b_info _ _ _ rfl hown2 c2 rfl hbs2 (by omega) hb12.size ?_
       intro v3 w3 hown3 hg3
       have hb3 := hb12.grown hg3 hb12.size (fun g e => (hlt2 g e).1)
       have h3 := h.on hb3
       have hz3 := hb3.size
       have hlt3 := hown3.lt
       clear hown2 hbs2 hg3 hb12 h2 hlt2)
    | (at_builtin; refine wpList_append_bytes rfl (.tmp 17) (.tmp 18) _ rfl w.heap.size 5 Tryz.underlying23 b_info _ _ _ rfl hown3 c rfl h3 (by omega) hz3 ?_
       intro v4 w4 hown4 hg4
       have hb4 := hb3.grown hg4 hz3 (fun g e => (hlt3 g e).1)
       have h4 := h.on hb4
       clear hown3 hg4 hb3 h3 hz3 hlt3))
  refine (rcrc_any A n c _ l (by omega) _ h4).mono ?_
  rintro e w5 ⟨rfl, rfl⟩
  rw [HC.out]
  go_wp2_with fail
  refine (rword_any cb hcb _).mono ?_
  rintro e w5 ⟨A5, c5, rfl, hbs5, hc5, hb5⟩
  have hb45 := hb4.trans (hb5.mono hb4.size)
  have hown5 := own_kept hown4 (Keeps.of_below [] hb5) (by simp)
  have hz5 := hb45.size
  have hlt5 := hown5.lt
  rw [word_len] at hbs5 hc5 ⊢
  clear hown4 hb4 hb5 h4
  go_wp2_with (at_builtin; refine wpList_append_bytes rfl (.tmp 20) (.tmp 23) _ rfl w.heap.size 5 Tryz.underlying23 b_info _ _ _ rfl hown5 c5 rfl hbs5 (by omega) hz5 ?_; intro v6 w6 hown6 hg6)
  have hb6 := hb45.grown hg6 hz5 (fun g e => (hlt5 g e).1)
  have hf : by8 (word n) ++ by8 (word cw) ++ by8 l ++ by8 (word cb) = by8 L := by rw [HN.out]; simp only [by8_append, List.append_assoc]
  rw [hf] at hown6
  obtain ⟨A6, c6, rfl, hbs6, hc6⟩ := of_own_cap hown6 HB.out
  have K := Lib.hid (And.intro hbs6 (And.intro hc6 hb6))
  clear hown5 hown6 hg6 hb45 hf hbs6 hc6 hb6 hlt5
  go_wp2_with fail
  go_ret2
  exact ⟨_, A6, c6, rfl, K.out.1, K.out.2.1, K.out.2.2⟩
def NextR (r : List Nat × Nat × Nat) (w : World) (e : Ending) (w' : World) : Prop := ∃ (m : Nat) (A : Option Addr) (c : Nat), e = .returned (.tuple #[.slice A m c, .int .i64 (r.2.1 : Nat), .int .i64 (r.2.2 : Nat)]) ∧ Bs w' w'.heap.size A m r.1 ∧ m ≤ c ∧ m ≤ 4194304 ∧ (∀ a, A = some a → w.heap.size ≤ a.block) ∧ Below w.heap.size w w'
theorem NextR.err {r : List Nat × Nat × Nat} {k : Nat} {w w' : World} {e : Ending} (hr : r = ([], 0, k)) (he : e = .returned (.tuple #[.slice none 0 0, .int .i64 0, .int .i64 (k : Nat)])) (hb : Below w.heap.size w w') : NextR r w e w' := by
  subst hr
  exact ⟨0, none, 0, he, Bs.nil _ _ _, Nat.le_refl _, by omega, fun a e => (by cases e), hb⟩
theorem below_drewN {B : Nat} {a w : World} (h : Below B a w) (n : Nat) : Below B a (w.drewN n) := ⟨h.os, h.tape, h.output, h.size, h.block⟩
set_option maxRecDepth 100000 in
theorem rnext_arg (A : Option Addr) (n c : Nat) (j : Int) (hj : j < 0 ∨ (n : Int) < j) (w : World) :
    Calls Tryz.prog 18 #[.slice A n c, .int .i64 j] w fun e w' => e = .returned (.tuple #[.slice none 0 0, .int .i64 0, .int .i64 2]) ∧ w = w' := by
  by_cases h0 : j < 0
  · have e1 : decide (j < 0) = true := by simpa using h0
    clear hj h0
    go_enter Tryz.func18, Tryz.ntmps18
    go_wp2_with fail
    go_ret3
    exact ⟨rfl, rfl⟩
  · have h1 : (n : Int) < j := by omega
    have e1 : decide (j < 0) = false := by simpa using h0
    have e2 : decide (j > (n : Int)) = true := by simpa using h1
    have e3 : decide ((n : Int) < j) = true := by simpa using h1
    clear hj h0 h1
    go_enter Tryz.func18, Tryz.ntmps18
    go_wp2_with fail
    go_ret3
    exact ⟨rfl, rfl⟩
set_option maxRecDepth 100000 in
set_option maxHeartbeats 4000000 in
theorem rnext_in (A : Option Addr) (n c p : Nat) (l : List Nat) (hp : p ≤ n) (hn : n ≤ 140737488351232) (hc : n ≤ c) (w : World) (h : Bs w w.heap.size A n l) :
    Calls Tryz.prog 18 #[.slice A n c, .int .i64 (p : Nat)] w (NextR (nxt l p) w) := by
  have hlen := h.1
  have e1 : decide ((p : Int) < 0) = false := by simp
  have e2 : decide ((p : Int) > (n : Int)) = false := by simp; omega
  have e3 : decide ((n : Int) < (p : Int)) = false := by simp; omega
  have e4 : decide (n < p) = false := by simp; omega
  obtain ⟨A1, hsl1, hb1⟩ := slice_from (P := Tryz.prog) (T := 23) (e := 0) (m := p) Tryz.underlying23 Tryz.sizeOf5 h hp hc
  obtain ⟨r, hr⟩ : ∃ r, n - p = r := ⟨_, rfl⟩
  obtain ⟨c1, hc1⟩ : ∃ c1, c - p = c1 := ⟨_, rfl⟩
  rw [hr] at hb1
  rw [hr, hc1] at hsl1
  have hrc : r ≤ c1 := by omega
  by_cases h8 : r < 8
  · have d1 : decide ((r : Int) < 8) = true := by simp; omega
    have HX := Lib.hid (nxt_short (l := l) (p := p) (by omega))
    clear hb1 h hlen hr hc1 hp hn hc hrc h8
    go_enter Tryz.func18, Tryz.ntmps18
    go_wp2_with fail
    go_ret3
    exact .err HX.out rfl (Below.refl _ _)
  · have d1 : decide ((r : Int) < 8) = false := by simp; omega
    obtain ⟨b, off, rfl, hbB, -⟩ := hb1.2.2 (by omega)
    obtain ⟨A4, hsl4, hb4⟩ := slice_from (P := Tryz.prog) (T := 23) (e := 0) (m := 4) Tryz.underlying23 Tryz.sizeOf5 hb1 (by omega) hrc
    have hsl4' : ∀ w, (Instr.slice 23 (.slice (some ⟨b, off, none⟩) r c1) (some (.int .i64 4)) none none).run Tryz.prog w = .ok (.slice A4 (r - 4) (c1 - 4)) w := fun w => hsl4 w
    have hsl5 := slice_to (P := Tryz.prog) (T := 23) (A := some ⟨b, off, none⟩) (n := r) (c := c1) (m := 4) Tryz.underlying23 1 Tryz.sizeOf5 (fun a e => by injection e with e; rw [← e]) (by omega)
    have hsl5' : ∀ w, (Instr.slice 23 (.slice (some ⟨b, off, none⟩) r c1) none (some (.int .i64 4)) none).run Tryz.prog w = .ok (.slice (some ⟨b, off, none⟩) 4 c1) w := fun w => hsl5 w
    have hb5 : Bs w w.heap.size (some ⟨b, off, none⟩) 4 ((l.drop p).take 4) := by
      have := Bs.sub hb1 (p := 0) (v := 4) (by omega)
      simpa using this
    have qw : ∀ k, Calls Tryz.prog 34 #[.slice A4 (r - 4) (c1 - 4)] (w.drewN k) fun e w' => e = .returned (.int .u32 (unw l (p + 4) : Nat)) ∧ ∃ m, w' = (w.drewN k).drewN m := fun k => by
      have := rdw_any A4 (r - 4) (c1 - 4) _ _ (by omega) (w.drewN k) hb4
      rw [unw_drop, unw_drop] at this
      exact this
    have qc : ∀ k, Calls Tryz.prog 33 #[.slice (some ⟨b, off, none⟩) 4 c1] (w.drewN k) fun e w' => e = .returned (.int .u32 (crc ((l.drop p).take 4) : Nat)) ∧ w.drewN k = w' := fun k => rcrc_any _ 4 c1 _ _ (by omega) (w.drewN k) hb5
    have hl8 : ¬ l.length < p + 8 := by omega
    clear hsl4 hsl5 hb4 hb5
    by_cases hs1 : unw l (p + 4) = crc ((l.drop p).take 4)
    · rw [hs1] at qw
      obtain ⟨cc, hcc⟩ : ∃ x, crc ((l.drop p).take 4) = x := ⟨_, rfl⟩
      have HS1 := Lib.hid hs1
      rw [hcc] at qw qc
      clear hcc hs1
      have hle : ∀ w2, Below w.heap.size w w2 → Calls Tryz.prog 34 #[.slice (some ⟨b, off, none⟩) r c1] w2 fun e w' => e = .returned (.int .u32 (unw l p : Nat)) ∧ ∃ k, w' = w2.drewN k := fun w2 hb => by
        have := rdw_any _ r c1 _ _ (by omega) w2 (hb1.below hb)
        rw [unw_drop] at this
        exact this
      have hub : unw l p < 2 ^ 32 := by
        have := (word_unw ((l.drop p).take 4) (cut_byte h.2.1 p 4) (by rw [List.length_take, List.length_drop]; omega)).2
        rw [unw_cut] at this
        exact this
      by_cases htop : top < unw l p
      · have hT : 4194304 < unw l p := htop
        have HX := Lib.hid (nxt_big hl8 HS1.out htop)
        obtain ⟨u, hu⟩ : ∃ u, unw l p = u := ⟨_, rfl⟩
        rw [hu] at hle hT
        have d2 : decide ((u : Int) > 4194304) = true := by simp; omega
        have d3 : decide ((4194304 : Int) < u) = true := by simp; omega
        clear hu hub hb1 h hlen htop
        go_enter Tryz.func18, Tryz.ntmps18
        go_wp2_with fail
        go_quiet ((first | (go_at_call 34; exact Calls.quiet_of (qw _)) | (go_at_call 33; exact Calls.quiet_of_same (flipS (qc _)))))
        go_wp2_with fail
        refine (hle _ (below_drewN (Below.refl _ _) _)).mono ?_
        rintro e w2 ⟨rfl, k2, rfl⟩
        go_wp2_with fail
        go_ret3
        exact .err HX.out rfl (below_drewN (Below.refl _ _) _)
      · have hT : unw l p ≤ 4194304 := by unfold top at htop; omega
        obtain ⟨u, hu⟩ : ∃ u, unw l p = u := ⟨_, rfl⟩
        have d2 : decide ((u : Int) > 4194304) = false := by simp; omega
        have d3 : decide ((4194304 : Int) < u) = false := by simp; omega
        by_cases hcut : l.length < p + unw l p + 12
        · have HX := Lib.hid (nxt_cut2 hl8 HS1.out htop hcut)
          rw [hu] at hle hT hcut
          have d4 : decide ((r : Int) < (u : Int) + 12) = true := by simp; omega
          clear hu hub hb1 h hlen htop
          go_enter Tryz.func18, Tryz.ntmps18
          go_wp2_with fail
          go_quiet ((first | (go_at_call 34; exact Calls.quiet_of (qw _)) | (go_at_call 33; exact Calls.quiet_of_same (flipS (qc _)))))
          go_wp2_with fail
          refine (hle _ (below_drewN (Below.refl _ _) _)).mono ?_
          rintro e w2 ⟨rfl, k2, rfl⟩
          go_wp2_with fail
          go_ret3
          exact .err HX.out rfl (below_drewN (Below.refl _ _) _)
        · have hru : u + 12 ≤ r := by omega
          have d4 : decide ((r : Int) < (u : Int) + 12) = false := by simp; omega
          obtain ⟨A6, hsl6, hb6⟩ := slice_from (P := Tryz.prog) (T := 23) (e := 0) (m := 8 + u) Tryz.underlying23 Tryz.sizeOf5 hb1 (by omega) hrc
          have hsl6' : ∀ w, (Instr.slice 23 (.slice (some ⟨b, off, none⟩) r c1) (some (.int .i64 (8 + (u : Int)))) none none).run Tryz.prog w = .ok (.slice A6 (r - (8 + u)) (c1 - (8 + u))) w := fun w => hsl6 w
          obtain ⟨A7, hsl7, hb7⟩ := slice_mid (P := Tryz.prog) (T := 23) (m := 8) (k := 8 + u) Tryz.underlying23 Tryz.sizeOf5 hb1 (by omega) (by omega) hrc
          rw [Nat.add_sub_cancel_left] at hsl7 hb7
          have hsl7' : ∀ w, (Instr.slice 23 (.slice (some ⟨b, off, none⟩) r c1) (some (.int .i64 8)) (some (.int .i64 (8 + (u : Int)))) none).run Tryz.prog w = .ok (.slice A7 u (c1 - 8)) w := fun w => hsl7 w
          have qw2 : ∀ w2, Below w.heap.size w w2 → ∀ k, Calls Tryz.prog 34 #[.slice A6 (r - (8 + u)) (c1 - (8 + u))] (w2.drewN k) fun e w' => e = .returned (.int .u32 (unw l (p + 8 + unw l p) : Nat)) ∧ ∃ m, w' = (w2.drewN k).drewN m := fun w2 hb k => by
            have := rdw_any A6 (r - (8 + u)) (c1 - (8 + u)) _ _ (by omega) (w2.drewN k) (hb6.below (below_drewN hb k))
            rw [unw_drop, unw_drop, Nat.add_zero] at this
            rw [hu, Nat.add_assoc]
            exact this
          have qc2 : ∀ w2, Below w.heap.size w w2 → ∀ k, Calls Tryz.prog 33 #[.slice A7 u (c1 - 8)] (w2.drewN k) fun e w' => e = .returned (.int .u32 (crc ((l.drop (p + 8)).take (unw l p)) : Nat)) ∧ w2.drewN k = w' := fun w2 hb k => by
            have := rcrc_any A7 u (c1 - 8) _ _ (by omega) (w2.drewN k) (hb7.below (below_drewN hb k))
            rw [List.drop_drop] at this
            rw [hu]
            exact this
          by_cases hs2 : unw l (p + 8 + unw l p) = crc ((l.drop (p + 8)).take (unw l p))
          · have HX := Lib.hid (nxt_yes hl8 HS1.out htop hcut hs2)
            rw [hs2] at qw2
            obtain ⟨c2, hc2⟩ : ∃ x, crc ((l.drop (p + 8)).take (unw l p)) = x := ⟨_, rfl⟩
            rw [hc2] at qw2 qc2
            have hcp : ∀ w2, Below w.heap.size w w2 → Calls Tryz.prog 35 #[.slice A7 u (c1 - 8)] w2 (Own ((l.drop (p + 8)).take (unw l p)) w2) := fun w2 hb => by
              have := copyO_any A7 u (c1 - 8) _ _ (by omega) w2 (hb7.on hb) (Nat.le_refl _)
              rw [List.drop_drop] at this
              rw [hu]
              exact this
            have hlu : ((l.drop (p + 8)).take (unw l p)).length = u := by
              have := hb7.1
              rw [List.drop_drop] at this
              rw [hu]
              exact this
            have hby : ∀ x ∈ (l.drop (p + 8)).take (unw l p), x < 256 := fun x hx => h.2.1 x (List.mem_of_mem_drop (List.mem_of_mem_take hx))
            obtain ⟨L, hL⟩ : ∃ L, (l.drop (p + 8)).take (unw l p) = L := ⟨_, rfl⟩
            rw [hL] at HX hcp hlu hby
            have HL := Lib.hid (And.intro hlu (And.intro hby hu))
            rw [hu] at hle hT hcut
            clear hu hub hb1 h hlen htop hsl6 hsl7 hb6 hb7 hs2 hc2 hL hlu hby
            go_enter Tryz.func18, Tryz.ntmps18
            go_wp2_with fail
            go_quiet ((first | (go_at_call 34; exact Calls.quiet_of (qw _)) | (go_at_call 33; exact Calls.quiet_of_same (flipS (qc _)))))
            go_wp2_with fail
            refine (hle _ (below_drewN (Below.refl _ _) _)).mono ?_
            rintro e w2 ⟨rfl, k2, hw2⟩
            have hbw2 : Below w.heap.size w w2 := by rw [hw2]; exact below_drewN (below_drewN (Below.refl _ _) _) _
            have qw3 := qw2 _ hbw2
            have qc3 := qc2 _ hbw2
            clear hw2 qw2 qc2 qw qc hle
            go_wp2_with fail
            go_quiet ((first | (go_at_call 34; exact Calls.quiet_of (qw3 _)) | (go_at_call 33; exact Calls.quiet_of_same (flipS (qc3 _)))))
            go_wp2_with fail
            refine (hcp _ (below_drewN hbw2 _)).mono ?_
            rintro e w5 ⟨v5, rfl, hown5, hbw5⟩
            have hbase := hown5.lt
            obtain ⟨A5, c5, rfl, hb5, hc5⟩ := of_own_cap hown5 HL.out.2.1
            have hfresh : ∀ a, A5 = some a → w.heap.size ≤ a.block := fun a e => Nat.le_trans (below_drewN hbw2 _).size (hbase a.block (by rw [e]; rfl)).1
            have hbw6 := (below_drewN hbw2 _).trans (hbw5.mono (below_drewN hbw2 _).size)
            have HFR := Lib.hid (And.intro hfresh (And.intro hb5 (And.intro hc5 hbw6)))
            clear hbase hown5 hfresh hb5 hc5 hbw6 hbw5 hcp qw3 qc3
            go_wp2_with fail
            go_ret3
            rw [HX.out]
            refine ⟨L.length, A5, c5, ?_, HFR.out.2.1, HFR.out.2.2.1, by rw [HL.out.1]; exact hT, HFR.out.1, HFR.out.2.2.2⟩
            simp [HL.out.1, HL.out.2.2]
          · have hn1 : ((unw l (p + 8 + unw l p) : Nat) : Int) ≠ ((crc ((l.drop (p + 8)).take (unw l p)) : Nat) : Int) := by omega
            have HX := Lib.hid (nxt_sum2 hl8 HS1.out htop hcut hs2)
            obtain ⟨c2, hc2⟩ : ∃ x, crc ((l.drop (p + 8)).take (unw l p)) = x := ⟨_, rfl⟩
            obtain ⟨u2, hu2⟩ : ∃ x, unw l (p + 8 + unw l p) = x := ⟨_, rfl⟩
            rw [hc2] at qc2 hn1
            rw [hu2] at qw2 hn1
            have d7 : ((u2 : Int) != (c2 : Int)) = true := by simpa using hn1
            have d8 : ((u2 : Int) == (c2 : Int)) = false := by simpa using hn1
            rw [hu] at hle hT hcut
            clear hu hub hb1 h hlen htop hsl6 hsl7 hb6 hb7 hs2 hc2 hu2 hn1
            go_enter Tryz.func18, Tryz.ntmps18
            go_wp2_with fail
            go_quiet ((first | (go_at_call 34; exact Calls.quiet_of (qw _)) | (go_at_call 33; exact Calls.quiet_of_same (flipS (qc _)))))
            go_wp2_with fail
            refine (hle _ (below_drewN (Below.refl _ _) _)).mono ?_
            rintro e w2 ⟨rfl, k2, hw2⟩
            have hbw2 : Below w.heap.size w w2 := by rw [hw2]; exact below_drewN (below_drewN (Below.refl _ _) _) _
            have qw3 := qw2 _ hbw2
            have qc3 := qc2 _ hbw2
            clear hw2 qw2 qc2 qw qc hle
            go_wp2_with fail
            go_quiet ((first | (go_at_call 34; exact Calls.quiet_of (qw3 _)) | (go_at_call 33; exact Calls.quiet_of_same (flipS (qc3 _)))))
            go_wp2_with fail
            go_ret3
            exact .err HX.out rfl (below_drewN hbw2 _)
    · have hn1 : ((unw l (p + 4) : Nat) : Int) ≠ ((crc ((l.drop p).take 4) : Nat) : Int) := by omega
      have HX := Lib.hid (nxt_sum1 hl8 hs1)
      obtain ⟨cc, hcc⟩ : ∃ x, crc ((l.drop p).take 4) = x := ⟨_, rfl⟩
      obtain ⟨uu, huu⟩ : ∃ x, unw l (p + 4) = x := ⟨_, rfl⟩
      rw [hcc] at qc hn1
      rw [huu] at qw hn1
      have d5 : ((uu : Int) != (cc : Int)) = true := by simpa using hn1
      have d6 : ((uu : Int) == (cc : Int)) = false := by simpa using hn1
      clear hcc huu hs1 hn1 hb1 h hlen
      go_enter Tryz.func18, Tryz.ntmps18
      go_wp2_with fail
      go_quiet ((first | (go_at_call 34; exact Calls.quiet_of (qw _)) | (go_at_call 33; exact Calls.quiet_of_same (flipS (qc _)))))
      go_wp2_with fail
      go_ret3
      exact .err HX.out rfl (below_drewN (Below.refl _ _) _)
set_option maxRecDepth 100000 in
set_option maxHeartbeats 2000000 in
theorem rAll_any (A : Option Addr) (n c : Nat) (s : List Nat) (hn : n ≤ 35184372088832) (hc : n ≤ c) (w : World) (h : Bs w w.heap.size A n s) :
    Calls Tryz.prog 19 #[.slice A n c] w (OwnR (alls s 0).1 (alls s 0).2 w) := by
  have HL := Lib.hid h.1
  obtain ⟨R, hR⟩ : ∃ R, alls s 0 = R := ⟨_, rfl⟩
  rw [hR]
  have HR := Lib.hid hR
  clear hR
  go_enter Tryz.func19, Tryz.ntmps19
  go_wp2_with fail
  go_loopw [4, 5] (fun v j wr => ∃ (M : List (List Nat)) (p : Nat), p ≤ n ∧ j = .int .i64 p ∧ 12 * M.length ≤ p ∧ R = (M ++ (alls s p).1, (alls s p).2) ∧ Mq wr w.heap.size 23 v M ∧ Below w.heap.size w wr) (fun _ j _ => n - (intOf j).toNat)
  case atStart => exact ⟨[], 0, by omega, rfl, by simp, by rw [← HR.out]; rfl, Mq.nil _ _ _, Below.refl _ _⟩
  case round =>
    obtain ⟨M, p, hp, rfl, hm, hRe, hmq, hbl⟩ := hrel
    have hnx := rnext_in A n c p s hp (by omega) hc _ (h.on hbl)
    have hTk := hbl.size
    by_cases hk : (nxt s p).2.2 = 0
    · obtain ⟨⟨x, q, k⟩, hr⟩ : ∃ r, nxt s p = r := ⟨_, rfl⟩
      rw [hr] at hnx hk
      have hk0 : k = 0 := hk
      subst hk0
      have hst := alls_step hr
      have hok := nxt_ok hr
      have hq : q ≤ n := by have := hok.2.1; have := HL.out; omega
      have hR2 : R = ((M ++ [x]) ++ (alls s q).1, (alls s q).2) := by rw [hRe, hst]; simp
      have HR2 := Lib.hid hR2
      have hpq : p + 12 ≤ q := hok.1
      have hx : x.length ≤ 4194304 := hok.2.2.2
      clear hk hr hst hok hR2 hRe
      go_wp2_with fail
      refine hnx.mono ?_
      rintro e w1 ⟨m1, A1, c1, rfl, hb1, hc1, hm1, hf1, hbl1⟩
      have hxl : m1 = x.length := hb1.1.symm
      subst hxl
      have hlt := hmq.lt
      have hmq1 := hmq.on hbl1
      have hbb := hbl.trans (hbl1.mono hTk)
      have hrd : Rd w1 w1.heap.size (.slice A1 x.length c1) x := Rd.mk hb1 (by unfold reach; omega) hc1
      have hap : Apart (.slice A1 x.length c1) u4 := fun A n c a e hn ha e2 => by
        injection e with e3 e4 e5
        subst e3
        have h1 := hf1 a ha
        have h2 := (hlt _ e2).2
        omega
      have hba : Below w1.heap.size w1 (w1.alloc (.cells #[.slice A1 x.length c1] 23)) := (Below.refl _ _).alloc (Nat.le_refl _) _
      have hmq2 := hmq1.on hba
      have hrd2 := hrd.on hba
      have hcell : (w1.alloc (.cells #[.slice A1 x.length c1] 23)).cell? ⟨w1.heap.size, 0, none⟩ = some (.slice A1 x.length c1) := by rw [World.cell?_alloc_new]; rfl
      have hbb2 : Below w.heap.size w (w1.alloc (.cells #[.slice A1 x.length c1] 23)) := hbb.alloc hbb.size _
      have hz2 := hbb2.size
      clear hnx hbl hbl1 hmq hmq1 hrd hba hb1
      go_wp2_with (at_builtin; refine wpList_append_row rfl (.tmp 20) (.tmp 22) _ rfl w.heap.size 23 Tryz.underlying22 infoRow rfl hmq2 _ _ _ rfl hcell hrd2 hap (by omega) hz2 ?_; intro v' w3 hmq3 hgrow hown3)
      have hbb3 := hbb2.grown hgrow hz2 hown3
      have K := Lib.hid (And.intro hmq3 hbb3)
      clear hmq3 hbb3 hgrow hmq2 hrd2 hcell hbb2
      go_wp2_with fail
      go_roundw
      case rel => exact ⟨M ++ [x], q, hq, rfl, by rw [List.length_append, List.length_singleton]; omega, HR2.out, K.out.1, K.out.2⟩
      case measure => simp [intOf]; omega
    · have hst := alls_stop hk
      have hRf : R = (M, p) := by rw [hRe, hst]; simp
      obtain ⟨⟨x, q, k⟩, hr⟩ : ∃ r, nxt s p = r := ⟨_, rfl⟩
      rw [hr] at hnx hk
      have hk0 : k ≠ 0 := hk
      have he : ((k : Int) != 0) = true := by simp; omega
      have he2 : ((k : Int) == 0) = false := by simp; omega
      have HRf := Lib.hid hRf
      have HQ := Lib.hid hmq
      clear hst hRe hr hRf hk hk0 hmq
      go_wp2_with fail
      refine hnx.mono ?_
      rintro e w1 ⟨m1, A1, c1, rfl, hb1, hc1, hm1, hf1, hbl1⟩
      have hmq1 := HQ.out.on hbl1
      have hbb := hbl.trans (hbl1.mono hTk)
      have K := Lib.hid (And.intro hmq1 hbb)
      clear hmq1 hbb hnx hb1 hf1 hbl1 hbl
      go_wp2_with fail
      go_ret2
      refine ⟨u4, ?_, ?_, K.out.2⟩
      · rw [HRf.out]
        rfl
      · rw [HRf.out]
        exact K.out.1
end Pk
end Go.Proofs.YtdfkapehjmmnoaaGreatDoor
