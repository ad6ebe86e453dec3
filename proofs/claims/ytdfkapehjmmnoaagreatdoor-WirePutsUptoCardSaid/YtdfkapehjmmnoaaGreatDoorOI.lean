/-
  HOW THE LAWS OF layer 3 AND OF THOSE ABOVE IT ARE CLOSED: what came in as a number, a slice's room, a datum's bulk. For any program; no condition.
  THE WALK of layer 3's heads: the calls whose answers are known beforehand. No condition.
  THE WALKS of slices.Grow of nil, slices.Concat of rows of bytes, bytes.Clone; octet's PutBytes, PutFlag, Bytes, and the document's PutBytes, PutFlag. Conditions: bytes lie below 256; what is made takes at most 2^47 bytes.
-/
import Derived.Test.YtdfkapehjmmnoaaGreatDoorOF
import Derived.Test.YtdfkapehjmmnoaaGreatDoorMB
import Derived.Lib.AppendZerosOnto
import Derived.Lib.SliceRun
import Derived.Lib.SlBytesConst
import Derived.Deep.CondSized
import Derived.JoinedCond
namespace Go.Proofs.YtdfkapehjmmnoaaGreatDoor
open _root_.Go.Value renaming int → V, slice → O
open _root_.Go.IntKind renaming i64 → J, u64 → U
section
open Go.RowKit Go.ChangeShapes Go.WideShapes Go.ChangeAt
namespace Oc

theorem zeroCells_size (z : Array Value) (n : Nat) : (Builtin.zeroCells z n).size = n * z.size := by simp [Builtin.zeroCells]
set_option maxRecDepth 100000 in
set_option maxHeartbeats 400000 in
theorem grow_some (n : Nat) (hn0 : 1 ≤ n) (hn : n ≤ 140737488355328) (w : World) :
    Calls Tryz.prog 67 #[O none 0 0, V J (n : Int)] w fun e w' => ∃ v, e = .returned v ∧ w'.ownsRow w.heap.size 5 1 v 0 [] ∧ Below w.heap.size w w' := by
  obtain ⟨i0, hi0, hz0, hz1, hz2⟩ := info_parts b_info
  have hold : (Builtin.firstCells i0.size 0 (O none 0 0)).run Tryz.prog w.drew = .ok #[] w.drew := run_firstCells_none w.drew i0.size 0 0 0
  have hrz := fun ty => Lib.run_append_grow_zeros w 23 3 ty 5 i0 (V .u8 0) .i64 .i64 Tryz.underlying23 Tryz.underlying3 hi0 hz0 none 0 0 [] hold n (by omega) (by rw [hz1]; decide) (by omega) (by omega) (by rw [hz2]; omega) (growslice_fits (by omega) (by rw [hz2]; omega))
  simp only [Nat.zero_add] at hrz
  have hG1 := grownCap_ge w n 0 5
  have hG2 := grownCap_le_maxLen w n 0 5 (by simp only [maxLen]; omega)
  obtain ⟨G, hG⟩ : ∃ G, grownCap w n 0 5 = G := ⟨_, rfl⟩
  rw [hG] at hG1 hG2
  simp only [hG] at hrz
  unfold maxLen at hG2
  have hG3 : Hid (G ≤ 9223372036854775807) := Lib.hid (by omega)
  have HG := Lib.hid hG1
  clear hG hG1 hG2 hold
  go_enter Tryz.func67, Tryz.ntmps67
  go_wp2_with (at_builtin; refine Lib.wpList_append_run _ rfl _ _ _ _ rfl _ _ rfl rfl _ _ (hrz _) ?_)
  go_ret
  refine ⟨_, rfl, World.ownsRow_made w _ G (Nat.le_refl _) (by have := hG3.out; simp only [maxLen]; omega) ?_, ((Below.refl _ _).alloc (Nat.le_refl _) _).drew⟩
  have := HG.out
  simp only [Array.size_append, zeroCells_size]
  simp
  omega
set_option maxRecDepth 100000 in
set_option maxHeartbeats 400000 in
theorem grow_none (w : World) :
    Calls Tryz.prog 67 #[O none 0 0, V J 0] w fun e w' => ∃ v, e = .returned v ∧ w'.ownsRow w.heap.size 5 1 v 0 [] ∧ Below w.heap.size w w' := by
  go_enter Tryz.func67, Tryz.ntmps67
  go_wp2_with fail
  go_ret
  exact ⟨_, rfl, ⟨rfl, Or.inl ⟨rfl, rfl⟩⟩, Below.refl _ _⟩
theorem grow_any (n : Nat) (hn : n ≤ 140737488355328) (w : World) :
    Calls Tryz.prog 67 #[O none 0 0, V J (n : Int)] w fun e w' => ∃ v, e = .returned v ∧ w'.ownsRow w.heap.size 5 1 v 0 [] ∧ Below w.heap.size w w' := by
  by_cases h : n = 0
  · subst h
    exact grow_none w
  · exact grow_some n (by omega) hn w

theorem flat_step (M : List (List Nat)) (k : Nat) (hk : k < M.length) : (M.take (k + 1)).flatten = (M.take k).flatten ++ M.getD k [] := by
  rw [List.take_succ_eq_append_getElem hk, List.flatten_append, List.getD_eq_getElem?_getD, List.getElem?_eq_getElem hk]
  simp
theorem flat_take (M : List (List Nat)) (k : Nat) : (M.take k).flatten.length ≤ M.flatten.length := by
  have h := congrArg (fun x => (List.flatten x).length) (List.take_append_drop k M)
  simp only [List.flatten_append, List.length_append] at h
  omega

set_option maxRecDepth 100000 in
set_option maxHeartbeats 1000000 in
theorem concat_any (A : Option Addr) (m c B : Nat) (M : List (List Nat)) (hm : m ≤ 1000000) (hT : M.flatten.length ≤ 140737488355328) (w : World) (h : Ms w B A m M) (hB : B ≤ w.heap.size) :
    Calls Tryz.prog 38 #[.slice A m c] w (Own M.flatten w) := by
  have hml := h.1
  obtain ⟨S, hS0, hS1, hS2, hS3⟩ : ∃ S : Nat → List Nat, S 0 = [] ∧ (∀ k, k < m → S (k + 1) = S k ++ M.getD k []) ∧ (∀ k, (S k).length ≤ 140737488355328) ∧ S m = M.flatten := by
    refine ⟨fun k => (M.take k).flatten, rfl, fun k hk => flat_step M k (by omega), fun k => Nat.le_trans (flat_take M k) hT, ?_⟩
    show (M.take m).flatten = _
    rw [List.take_of_length_le (by omega)]
  rw [← hS3]
  have H0 := Lib.hid hS0
  have H1 := Lib.hid hS1
  have H2 := Lib.hid hS2
  clear hS0 hS1 hS2 hS3 hml hT
  go_enter Tryz.func38, Tryz.ntmps38
  go_wp2
  go_loop [3, 11] (fun s i => ∃ k : Nat, k ≤ m ∧ i = V J k ∧ s = V J ((S k).length : Nat)) (fun _ i => m - (intOf i).toNat)
  case atStart => exact ⟨0, by omega, rfl, by rw [H0.out]; rfl⟩
  case round =>
    obtain ⟨k, hk, rfl, rfl⟩ := hrel
    have hle := H2.out k
    by_cases hlt : k < m
    · obtain ⟨b1, off1, A1, c1, rfl, hb1, hc1, hbs1, hr1, -⟩ := h.row k hlt
      have ht := congrArg List.length (H1.out k hlt)
      rw [List.length_append] at ht
      have hle2 := H2.out (k + 1)
      unfold reach at hr1
      obtain ⟨x, hx⟩ : ∃ x, (M.getD k []).length = x := ⟨_, rfl⟩
      obtain ⟨y, hy⟩ : ∃ y, (S k).length = y := ⟨_, rfl⟩
      obtain ⟨z, hz⟩ : ∃ z, (S (k + 1)).length = z := ⟨_, rfl⟩
      rw [hx, hy, hz] at ht
      rw [hx] at hc1 hr1
      rw [hy] at hle ⊢
      rw [hz] at hle2
      have HX := Lib.hid hx
      have HY := Lib.hid hy
      have HZ := Lib.hid hz
      have HT := Lib.hid ht
      clear hx hy hz ht
      go_wp2
      go_round
      case rel => exact ⟨k + 1, by omega, by go_num, by rw [HZ.out, HT.out]; go_num⟩
      case measure => simp [intOf]; omega
    · have hkm : Hid (k = m) := Lib.hid (by omega)
      obtain ⟨N, hN⟩ : ∃ N, (S k).length = N := ⟨_, rfl⟩
      rw [hN] at hle ⊢
      clear hN
      go_wp2_with fail
      refine (grow_any N hle _).mono ?_
      rintro e w1 ⟨v, rfl, hown, hb1⟩
      have hm1 := h.below (hb1.mono hB)
      go_wp2_with fail
      go_loopw [6, 27] (fun s i wr => ∃ k : Nat, k ≤ m ∧ i = V J k ∧ wr.ownsRow w.heap.size 5 1 s (S k).length (by8 (S k)) ∧ Ms wr B A m M ∧ Below w.heap.size w wr) (fun _ i _ => m - (intOf i).toNat)
      case atStart => exact ⟨0, by omega, rfl, by rw [H0.out]; exact hown, hm1, hb1⟩
      case round =>
        obtain ⟨k, hk, rfl, hown2, hm2, hbl⟩ := hrel
        clear hown hm1 hb1
        have hle3 := H2.out k
        by_cases hlt2 : k < m
        · obtain ⟨b1, off1, A1, c1, rfl, hb1, hc1, hbs1, hr1, -⟩ := hm2.row k hlt2
          have ht := H1.out k hlt2
          have hle2 := H2.out (k + 1)
          rw [ht, List.length_append] at hle2
          obtain ⟨r, hr⟩ : ∃ r, M.getD k [] = r := ⟨_, rfl⟩
          rw [hr] at ht hle2 hbs1 hc1
          obtain ⟨x, hx⟩ : ∃ x, r.length = x := ⟨_, rfl⟩
          rw [hx] at hc1 hbs1 hle2
          have HT := Lib.hid ht
          have HX := Lib.hid hx
          have hsz := hbl.size
          clear ht hr hx hr1
          go_wp2_with (at_builtin; refine wpList_append_bytes rfl (.tmp 31) (.tmp 32) _ rfl w.heap.size 5 Tryz.underlying23 b_info _ _ _ rfl hown2 c1 rfl hbs1 (by omega) (by omega) ?_; intro v' w' hown' hg)
          have hq := fun k hk => (hown2.lt k hk).1
          have hown3 : w'.ownsRow w.heap.size 5 1 v' (S (k + 1)).length (by8 (S (k + 1))) := by
            rw [HT.out, List.length_append, HX.out, by8_append]
            exact hown'
          have hm3 := hm2.grown hg (by omega) (fun g e => by have := hq g e; omega)
          have hbl3 := hbl.grown hg hsz hq
          have K := Lib.hid (And.intro hown3 (And.intro hm3 hbl3))
          clear hown' hown3 hm3 hbl3 hq hg hown2 hm2 hbs1 hc1 hbl
          go_wp2_with fail
          go_roundw
          case rel => exact ⟨k + 1, by omega, by go_num, K.out.1, K.out.2.1, K.out.2.2⟩
          case measure => simp [intOf]; omega
        · have hkm2 : k = m := by omega
          have HOW : Hid (wr.ownsRow w.heap.size 5 1 u6 (S m).length (by8 (S m))) := Lib.hid (by rw [← hkm2]; exact hown2)
          clear hown2 hkm2
          go_wp2_with fail
          go_ret
          exact ⟨_, rfl, HOW.out, hbl⟩

theorem ms3 {w : World} {B : Nat} {v0 v1 v2 : Value} {l0 l1 l2 : List Nat} (h0 : Rd w B v0 l0) (h1 : Rd w B v1 l1) (h2 : Rd w B v2 l2) (hB : B ≤ w.heap.size) (t : TypeId) :
    Ms (w.alloc (.cells #[v0, v1, v2] t)) (w.alloc (.cells #[v0, v1, v2] t)).heap.size (some ⟨w.heap.size, 0, none⟩) 3 [l0, l1, l2] := by
  have hb : Below B w (w.alloc (.cells #[v0, v1, v2] t)) := (Below.refl _ _).alloc hB _
  have hs : B ≤ (w.alloc (.cells #[v0, v1, v2] t)).heap.size := by simp; omega
  refine ⟨rfl, fun _ => ⟨w.heap.size, 0, rfl, by simp, fun k hk => ?_⟩⟩
  rw [World.cell?_alloc_new]
  have : k = 0 ∨ k = 1 ∨ k = 2 := by omega
  rcases this with rfl | rfl | rfl
  · exact ⟨v0, rfl, (h0.below hb).more hs⟩
  · exact ⟨v1, rfl, (h1.below hb).more hs⟩
  · exact ⟨v2, rfl, (h2.below hb).more hs⟩
theorem ms2 {w : World} {B : Nat} {v0 v1 : Value} {l0 l1 : List Nat} (h0 : Rd w B v0 l0) (h1 : Rd w B v1 l1) (hB : B ≤ w.heap.size) (t : TypeId) :
    Ms (w.alloc (.cells #[v0, v1] t)) (w.alloc (.cells #[v0, v1] t)).heap.size (some ⟨w.heap.size, 0, none⟩) 2 [l0, l1] := by
  have hb : Below B w (w.alloc (.cells #[v0, v1] t)) := (Below.refl _ _).alloc hB _
  have hs : B ≤ (w.alloc (.cells #[v0, v1] t)).heap.size := by simp; omega
  refine ⟨rfl, fun _ => ⟨w.heap.size, 0, rfl, by simp, fun k hk => ?_⟩⟩
  rw [World.cell?_alloc_new]
  have : k = 0 ∨ k = 1 := by omega
  rcases this with rfl | rfl
  · exact ⟨v0, rfl, (h0.below hb).more hs⟩
  · exact ⟨v1, rfl, (h1.below hb).more hs⟩

set_option maxRecDepth 100000 in
set_option maxHeartbeats 400000 in
theorem putBytes_any (A A' : Option Addr) (n c n' c' : Nat) (l x : List Nat) (w : World) (h : Rd w w.heap.size (.slice A n c) l) (h' : Rd w w.heap.size (.slice A' n' c') x) (hT : n + 10 + n' ≤ 140737488355328) :
    Calls Tryz.prog 51 #[.slice A n c, .slice A' n' c'] w (Own (l ++ (puts n' ++ x)) w) := by
  have hn : n = l.length := by obtain ⟨_, _, e, _⟩ := h; injection e
  have hn' : n' = x.length := by obtain ⟨_, _, e, _⟩ := h'; injection e
  have hr' : n' ≤ 140737488351232 := by obtain ⟨_, _, e, _, hr, _⟩ := h'; rw [hn']; exact hr
  have hp := puts_ten n' (by omega)
  have hpb := puts_byte n'
  have HP := Lib.hid hp
  have HPB := Lib.hid hpb
  have HN := Lib.hid hn
  have HN' := Lib.hid hn'
  clear hn hn' hp hpb
  go_enter Tryz.func51, Tryz.ntmps51
  go_wp2_with fail
  refine (put_any none 0 0 0 n' [] (by omega) (by omega) _ (Bs.nil _ _ _) (Nat.zero_le _)).mono ?_
  rintro e w1 ho
  obtain ⟨A1, c1, rfl, b1, hc1, hb1⟩ := ho.gives (by simpa using HPB.out)
  have h1 := h.on hb1
  have h1' := h'.on hb1
  have hq : Rd w1 w1.heap.size (.slice A1 ([] ++ puts n').length c1) (puts n') := ⟨A1, c1, rfl, b1, by have := HP.out; unfold reach; omega, hc1⟩
  have hm := ms3 h1 hq h1' (Nat.le_refl _) 23
  have hT2 : [l, puts n', x].flatten.length ≤ 140737488355328 := by
    have := HP.out
    have := HN.out
    have := HN'.out
    simp only [List.flatten_cons, List.flatten_nil, List.append_nil, List.length_append]
    omega
  have HM := Lib.hid hm
  clear hm h1 h1' hq b1 h h'
  go_wp2_with fail
  refine (concat_any _ 3 3 _ [l, puts n', x] (by omega) hT2 _ HM.out (by simp)).mono ?_
  rintro e w2 ⟨v, rfl, hown, hb2⟩
  have hb3 : Below w.heap.size w w2 := (hb1.alloc hb1.size _).trans (hb2.mono (by have := hb1.size; simp; omega))
  have hown3 := own_base hown (b' := w.heap.size) (by have := hb1.size; simp; omega)
  have K := Lib.hid (And.intro hown3 hb3)
  clear hown hown3 hb2 hb3
  go_wp2_with fail
  go_ret
  refine ⟨v, rfl, ?_, K.out.2⟩
  have := K.out.1
  simpa using this

set_option maxRecDepth 100000 in
set_option maxHeartbeats 400000 in
theorem putFlag_any (A : Option Addr) (n c : Nat) (f : Bool) (l : List Nat) (w : World) (h : Rd w w.heap.size (.slice A n c) l) (hT : n + 1 ≤ 140737488355328) :
    Calls Tryz.prog 46 #[.slice A n c, .bool f] w (Own (l ++ [f.toNat]) w) := by
  have hn : n = l.length := by obtain ⟨_, _, e, _⟩ := h; injection e
  have HN := Lib.hid hn
  clear hn
  have hT2 : ∀ y : Nat, [l, [y]].flatten.length ≤ 140737488355328 := fun y => by
    have := HN.out
    simp only [List.flatten_cons, List.flatten_nil, List.append_nil, List.length_append]
    simp
    omega
  cases f
  · have h1 : Rd (w.alloc (.cells #[V .u8 0] 5)) (w.alloc (.cells #[V .u8 0] 5)).heap.size (.slice A n c) l := (h.below ((Below.refl _ _).alloc (Nat.le_refl _) _)).more (by simp)
    have hq : Rd (w.alloc (.cells #[V .u8 0] 5)) (w.alloc (.cells #[V .u8 0] 5)).heap.size (.slice (some ⟨w.heap.size, 0, none⟩) 1 1) [0] := Rd.mk ((one_bs w 0 (by decide) 5).more (by simp)) (by decide) (by decide)
    have hm := ms2 h1 hq (Nat.le_refl _) 23
    have ez : (w.alloc (.cells #[V .u8 0] 5)).heap.size = w.heap.size + 1 := by simp
    rw [ez] at hm
    have HM := Lib.hid hm
    clear hm ez
    clear h1 hq h
    go_enter Tryz.func46, Tryz.ntmps46
    go_wp2_with fail
    refine (concat_any _ 2 2 _ [l, [0]] (by omega) (hT2 0) _ HM.out (by simp)).mono ?_
    rintro e w2 ⟨v, rfl, hown, hb2⟩
    have hb3 : Below w.heap.size w w2 := (((Below.refl _ _).alloc (Nat.le_refl _) _).alloc (by simp) _).trans (hb2.mono (by simp; omega))
    have hown3 := own_base hown (b' := w.heap.size) (by simp; omega)
    have K := Lib.hid (And.intro hown3 hb3)
    clear hown hown3 hb2 hb3
    go_wp2_with fail
    go_ret
    refine ⟨v, rfl, ?_, K.out.2⟩
    have := K.out.1
    simpa using this
  · have h1 : Rd (w.alloc (.cells #[V .u8 1] 5)) (w.alloc (.cells #[V .u8 1] 5)).heap.size (.slice A n c) l := (h.below ((Below.refl _ _).alloc (Nat.le_refl _) _)).more (by simp)
    have hq : Rd (w.alloc (.cells #[V .u8 1] 5)) (w.alloc (.cells #[V .u8 1] 5)).heap.size (.slice (some ⟨w.heap.size, 0, none⟩) 1 1) [1] := Rd.mk ((one_bs w 1 (by decide) 5).more (by simp)) (by decide) (by decide)
    have hm := ms2 h1 hq (Nat.le_refl _) 23
    have ez : (w.alloc (.cells #[V .u8 1] 5)).heap.size = w.heap.size + 1 := by simp
    rw [ez] at hm
    have HM := Lib.hid hm
    clear hm ez
    clear h1 hq h
    go_enter Tryz.func46, Tryz.ntmps46
    go_wp2_with fail
    refine (concat_any _ 2 2 _ [l, [1]] (by omega) (hT2 1) _ HM.out (by simp)).mono ?_
    rintro e w2 ⟨v, rfl, hown, hb2⟩
    have hb3 : Below w.heap.size w w2 := (((Below.refl _ _).alloc (Nat.le_refl _) _).alloc (by simp) _).trans (hb2.mono (by simp; omega))
    have hown3 := own_base hown (b' := w.heap.size) (by simp; omega)
    have K := Lib.hid (And.intro hown3 hb3)
    clear hown hown3 hb2 hb3
    go_wp2_with fail
    go_ret
    refine ⟨v, rfl, ?_, K.out.2⟩
    have := K.out.1
    simpa using this

set_option maxRecDepth 100000 in
set_option maxHeartbeats 400000 in
theorem clone_any (A : Option Addr) (n c B : Nat) (l : List Nat) (hf : Fit A n c) (w : World) (h : Bs w B A n l) (hB : B ≤ w.heap.size) :
    Calls Tryz.prog 43 #[.slice A n c] w (Gives l w) := by
  have hq : ∀ (w : World) (a : Option Addr) (n c n' c' : Nat), (binOp .eql 23 (.slice a n c) (.slice none n' c')).run Tryz.prog w = .ok (.bool a.isNone) w := fun w a n c n' c' => Lib.run_eql_slice_nil w _ _ a n c n' c' Tryz.underlying23
  have hlen := h.1
  cases A with
  | none =>
    obtain ⟨rfl, rfl⟩ := hf.nil rfl
    obtain rfl : l = [] := List.eq_nil_of_length_eq_zero hlen
    clear hlen hf
    go_enter Tryz.func43, Tryz.ntmps43
    go_wp2
    go_ret
    exact ⟨none, 0, rfl, Bs.nil _ _ _, Nat.le_refl _, Below.refl _ _⟩
  | some ad =>
    have hn := hf.2.1
    have hown := World.ownsRow_made (e := 5) (size := 1) (base := w.heap.size) w #[] 0 (Nat.le_refl _) (Nat.zero_le _) rfl
    have h2 : Bs (w.alloc (.cells #[] 5)) B (some ad) n l := h.below ((Below.refl _ _).alloc hB _)
    have HN := Lib.hid hlen
    clear hlen
    go_enter Tryz.func43, Tryz.ntmps43
    go_wp2_with (at_builtin; refine wpList_append_bytes rfl (.tmp 5) (.tmp 6) _ rfl w.heap.size 5 Tryz.underlying23 b_info _ 0 [] rfl hown c rfl h2 (by omega) (by simp) ?_; intro v' w' hown' hg)
    obtain ⟨A', c', rfl, hbs, hcap⟩ := of_own_cap (l := l) (by simpa using hown') h.2.1
    have hg' : (w.alloc (.cells #[] 5)).grownBy w' (some w.heap.size) := hg
    clear hg
    go_wp2
    go_ret
    exact ⟨A', c', by rw [HN.out]; rfl, by rw [HN.out]; exact hbs, by rw [HN.out]; exact hcap, ((Below.refl _ _).alloc (Nat.le_refl _) _).grown hg' (by simp) (by intro k hk; injection hk with hk; omega)⟩

theorem Bs.sub {w : World} {B b off n p v : Nat} {l : List Nat} (h : Bs w B (some ⟨b, off, none⟩) n l) (hpv : p + v ≤ n) : Bs w B (some ⟨b, off + p, none⟩) v ((l.drop p).take v) := by
  have hlen := h.1
  refine ⟨by simp; omega, fun x hx => h.2.1 x (List.mem_of_mem_drop (List.mem_of_mem_take hx)), fun hv => ?_⟩
  obtain ⟨b', off', e, hB, hc⟩ := h.2.2 (by omega)
  injection e with e
  injection e with e1 e2 _
  subst e1 e2
  refine ⟨b, off + p, rfl, hB, fun k hk => ?_⟩
  rw [Nat.add_assoc, hc (p + k) (by omega)]
  congr 3
  rw [List.getD_eq_getElem?_getD, List.getD_eq_getElem?_getD, List.getElem?_take, if_pos hk, List.getElem?_drop]

set_option maxRecDepth 100000 in
set_option maxHeartbeats 400000 in
theorem bytes_no (A : Option Addr) (n c B j : Nat) (m : Int) (l : List Nat) (hj : j ≤ n) (hf : Fit A n c) (w : World) (h : Bs w B A n l) (v p e : Nat) (hr : nrd l j = (v, p, e)) (he : e ≠ 0) :
    Calls Tryz.prog 135 #[.slice A n c, V J (j : Int), V J m] w fun e' w' => e' = .returned (.tuple #[O none 0 0, V J 0, V J e]) ∧ w = w' := by
  have HR := Lib.hid hr
  have he2 : ((e : Int) != 0) = true := by simp; omega
  clear hr he
  go_enter Tryz.func135, Tryz.ntmps135
  go_wp2_with fail
  refine (number_any A n c B j l hj hf _ h v p e HR.out).mono ?_
  rintro e w' ⟨rfl, rfl⟩
  go_wp2_with fail
  go_ret3
  exact ⟨rfl, rfl⟩
set_option maxRecDepth 100000 in
set_option maxHeartbeats 400000 in
theorem bytes_short (A : Option Addr) (n c B j : Nat) (m : Int) (l : List Nat) (hj : j ≤ n) (hf : Fit A n c) (w : World) (h : Bs w B A n l) (v p : Nat) (hr : nrd l j = (v, p, 0)) (hv : n < p + v ∨ m < (v : Int)) :
    Calls Tryz.prog 135 #[.slice A n c, V J (j : Int), V J m] w fun e' w' => e' = .returned (.tuple #[O none 0 0, V J 0, V J 40]) ∧ w = w' := by
  have HR := Lib.hid hr
  obtain ⟨hv64, hjp, hpl, _⟩ := nrd_ok l j v p h.2.1 hr
  rw [h.1] at hpl
  have hn := hf.2.1
  clear hr
  by_cases h1 : n < p + v
  · have hd : decide ((n : Int) - (p : Int) < (v : Int)) = true := by simp; omega
    clear hv
    go_enter Tryz.func135, Tryz.ntmps135
    go_wp2_with fail
    refine (number_any A n c B j l hj hf _ h v p 0 HR.out).mono ?_
    rintro e w' ⟨rfl, rfl⟩
    go_wp2_with fail
    go_ret3
    exact ⟨rfl, rfl⟩
  · have hd : decide ((n : Int) - (p : Int) < (v : Int)) = false := by simp; omega
    have hm : m < (v : Int) := by omega
    have hd2 : decide (m < (v : Int)) = true := by simp; omega
    clear hv
    go_enter Tryz.func135, Tryz.ntmps135
    go_wp2_with fail
    refine (number_any A n c B j l hj hf _ h v p 0 HR.out).mono ?_
    rintro e w' ⟨rfl, rfl⟩
    go_wp2_with fail
    go_ret3
    exact ⟨rfl, rfl⟩
def GivesAt (l : List Nat) (p : Nat) (w : World) (e : Ending) (w' : World) : Prop := ∃ A c, e = .returned (.tuple #[.slice A l.length c, V J p, V J 0]) ∧ Bs w' w'.heap.size A l.length l ∧ l.length ≤ c ∧ Below w.heap.size w w'
set_option maxRecDepth 100000 in
set_option maxHeartbeats 400000 in
theorem bytes_yes (A : Option Addr) (n c B j : Nat) (m : Int) (l : List Nat) (hj : j ≤ n) (hf : Fit A n c) (w : World) (h : Bs w B A n l) (hB : B ≤ w.heap.size) (v p : Nat) (hr : nrd l j = (v, p, 0)) (hv : p + v ≤ n) (hm : (v : Int) ≤ m) :
    Calls Tryz.prog 135 #[.slice A n c, V J (j : Int), V J m] w (GivesAt ((l.drop p).take v) (p + v) w) := by
  have HR := Lib.hid hr
  obtain ⟨hv64, hjp, hpl, _⟩ := nrd_ok l j v p h.2.1 hr
  rw [h.1] at hpl
  have hn := hf.2.1
  have hnc := hf.1
  clear hr
  obtain ⟨b, off, rfl, hb, hc⟩ := h.2.2 (by omega)
  have hsub := Bs.sub h hv
  have hd : decide ((n : Int) - (p : Int) < (v : Int)) = false := by simp; omega
  have hd2 : decide (m < (v : Int)) = false := by simp; omega
  clear hc
  by_cases hcp : c = p
  · subst hcp
    obtain rfl : v = 0 := by omega
    obtain rfl : n = c := by omega
    have hsub0 : (l.drop n).take 0 = [] := rfl
    rw [hsub0]
    clear hsub hsub0 hd hd2
    go_enter Tryz.func135, Tryz.ntmps135
    go_wp2_with fail
    refine (number_any _ n n B j l hj hf _ h 0 n 0 HR.out).mono ?_
    rintro e w' ⟨rfl, rfl⟩
    go_wp2_with fail
    refine (clone_any _ 0 0 B [] ⟨by omega, by omega, fun _ => rfl⟩ _ (Bs.nil _ _ _) hB).mono ?_
    rintro e w1 ⟨A1, c1, rfl, hb1, hc1, hbl⟩
    go_wp2_with fail
    go_ret3
    exact ⟨A1, c1, rfl, hb1, hc1, hbl⟩
  · have hfs : Fit (some ⟨b, off + p, none⟩) v (c - p) := ⟨by omega, by omega, fun h => by cases h⟩
    have HS := Lib.hid (And.intro hsub hfs)
    have hsl : ((l.drop p).take v).length = v := hsub.1
    obtain ⟨L, hL⟩ : ∃ L, (l.drop p).take v = L := ⟨_, rfl⟩
    rw [hL] at HS hsl ⊢
    have HL := Lib.hid hsl
    clear hsub hfs hL hsl
    go_enter Tryz.func135, Tryz.ntmps135
    go_wp2_with fail
    refine (number_any _ n c B j l hj hf _ h v p 0 HR.out).mono ?_
    rintro e w' ⟨rfl, rfl⟩
    go_wp2_with fail
    refine (clone_any _ v (c - p) B L HS.out.2 _ HS.out.1 hB).mono ?_
    rintro e w1 ⟨A1, c1, rfl, hb1, hc1, hbl⟩
    go_wp2_with fail
    go_ret3
    exact ⟨A1, c1, by rw [HL.out]; rfl, hb1, hc1, hbl⟩

set_option maxRecDepth 100000 in
set_option maxHeartbeats 400000 in
theorem rputBytes_any (A A' : Option Addr) (n c n' c' B : Nat) (l x : List Nat) (w : World) (h : Bs w B A n l) (h' : Bs w B A' n' x) (hB : B ≤ w.heap.size) (hT : n + 10 + n' ≤ 140737488355328) :
    Calls Tryz.prog 90 #[.slice A n c, .slice A' n' c'] w (Own (l ++ (puts n' ++ x)) w) := by
  have HP := Lib.hid (puts_ten n' (by omega))
  have HN := Lib.hid h.1
  have HN' := Lib.hid h'.1
  go_enter Tryz.func90, Tryz.ntmps90
  go_wp2_with fail
  refine (rput_any A n c B n' l (by omega) (by omega) _ h hB).mono ?_
  rintro e w1 ⟨v1, rfl, hown, hb1⟩
  have h1' := h'.below (hb1.mono hB)
  have hsz := hb1.size
  have hlen : (l ++ puts n').length + n' ≤ 140737488355328 := by
    have := HP.out
    have := HN.out
    rw [List.length_append]
    omega
  clear h h'
  go_wp2_with (at_builtin; refine wpList_append_bytes rfl (.tmp 9) (.tmp 10) _ rfl w.heap.size 5 Tryz.underlying23 b_info _ _ _ rfl hown c' rfl h1' hlen hsz ?_; intro v' w2 hown2 hg2)
  have hbl := hb1.grown hg2 hsz (fun g e => (hown.lt g e).1)
  have hown3 : w2.ownsRow w.heap.size 5 1 v' (l ++ (puts n' ++ x)).length (by8 (l ++ (puts n' ++ x))) := by
    rw [← List.append_assoc, by8_append, List.length_append, HN'.out]
    exact hown2
  have K := Lib.hid (And.intro hown3 hbl)
  clear hown3 hown2 hbl hg2 hown hb1 h1'
  go_wp2_with fail
  go_ret
  exact ⟨v', rfl, K.out.1, K.out.2⟩

set_option maxRecDepth 100000 in
set_option maxHeartbeats 400000 in
theorem rputFlag_any (A : Option Addr) (n c B : Nat) (f : Bool) (l : List Nat) (w : World) (h : Bs w B A n l) (hB : B ≤ w.heap.size) (hT : n + 1 ≤ 140737488355328) :
    Calls Tryz.prog 84 #[.slice A n c, .bool f] w (Own (l ++ [f.toNat]) w) := by
  have HN := Lib.hid h.1
  have hT2 : l.length + 1 ≤ 140737488355328 := by have := HN.out; omega
  cases f
  · go_enter Tryz.func84, Tryz.ntmps84
    go_wp2_with fail
    refine (rcopied_any A n c B l (by omega) _ h hB).mono ?_
    rintro e w1 ⟨v1, rfl, hown, hb1⟩
    have hone := one_bs w1 0 (by decide) 5
    have hownA : (w1.alloc (.cells #[V .u8 0] 5)).ownsRow w.heap.size 5 1 v1 l.length (by8 l) := hown.alloc _
    have hsz := hb1.size
    clear h
    go_wp2_with (at_builtin; refine wpList_append_bytes rfl (.tmp 11) (.tmp 12) _ rfl w.heap.size 5 Tryz.underlying23 b_info _ _ _ rfl hownA 1 rfl hone hT2 (by simp; omega) ?_; intro v' w2 hown2 hg2)
    have hbl := (hb1.alloc hsz _).grown hg2 (by simp; omega) (fun g e => (hownA.lt g e).1)
    have hown3 : w2.ownsRow w.heap.size 5 1 v' (l ++ [0]).length (by8 (l ++ [0])) := by
      rw [by8_append, List.length_append]
      exact hown2
    have K := Lib.hid (And.intro hown3 hbl)
    clear hown3 hown2 hbl hg2 hown hownA hone hb1
    go_wp2_with fail
    go_ret
    exact ⟨v', rfl, K.out.1, K.out.2⟩
  · go_enter Tryz.func84, Tryz.ntmps84
    go_wp2_with fail
    refine (rcopied_any A n c B l (by omega) _ h hB).mono ?_
    rintro e w1 ⟨v1, rfl, hown, hb1⟩
    have hone := one_bs w1 1 (by decide) 5
    have hownA : (w1.alloc (.cells #[V .u8 1] 5)).ownsRow w.heap.size 5 1 v1 l.length (by8 l) := hown.alloc _
    have hsz := hb1.size
    clear h
    go_wp2_with (at_builtin; refine wpList_append_bytes rfl (.tmp 7) (.tmp 8) _ rfl w.heap.size 5 Tryz.underlying23 b_info _ _ _ rfl hownA 1 rfl hone hT2 (by simp; omega) ?_; intro v' w2 hown2 hg2)
    have hbl := (hb1.alloc hsz _).grown hg2 (by simp; omega) (fun g e => (hownA.lt g e).1)
    have hown3 : w2.ownsRow w.heap.size 5 1 v' (l ++ [1]).length (by8 (l ++ [1])) := by
      rw [by8_append, List.length_append]
      exact hown2
    have K := Lib.hid (And.intro hown3 hbl)
    clear hown3 hown2 hbl hg2 hown hownA hone hb1
    go_wp2_with fail
    go_ret
    exact ⟨v', rfl, K.out.1, K.out.2⟩
end Oc
end
section
section
open Go.ChangeShapes Go.WideShapes Go.ChangeAt Go.RowKit
namespace Oc
theorem u8_nat {x : Int} (h : (Lit.int .u8 x).wf = true) : ∃ a : Nat, x = a ∧ a < 256 := by
  have hx : 0 ≤ x ∧ x ≤ 255 := by simpa [Lit.wf, IntKind.min, IntKind.max, IntKind.signed, IntKind.bits] using h
  exact ⟨x.toNat, by omega, by omega⟩
theorem u32_nat {x : Int} (h : (Lit.int .u32 x).wf = true) : ∃ a : Nat, x = a ∧ a < 2 ^ 32 := by
  have hx : 0 ≤ x ∧ x ≤ 4294967295 := by simpa [Lit.wf, IntKind.min, IntKind.max, IntKind.signed, IntKind.bits] using h
  exact ⟨x.toNat, by omega, by omega⟩
theorem u64_nat {x : Int} (h : (Lit.int .u64 x).wf = true) : ∃ a : Nat, x = a ∧ a < 2 ^ 64 := by
  have hx : 0 ≤ x ∧ x ≤ 18446744073709551615 := by simpa [Lit.wf, IntKind.min, IntKind.max, IntKind.signed, IntKind.bits] using h
  exact ⟨x.toNat, by omega, by omega⟩
theorem i64_bd {x : Int} (h : (Lit.int .i64 x).wf = true) : -9223372036854775808 ≤ x ∧ x ≤ 9223372036854775807 := by
  simpa [Lit.wf, IntKind.min, IntKind.max, IntKind.signed, IntKind.bits] using h
theorem bulk_one {H : Type} (d : DataW H) : 1 ≤ Rows.uptoBulk d := by
  cases d with
  | lit l => cases l <;> simp [Rows.uptoBulk]
  | nil => simp [Rows.uptoBulk]
  | ptr d => simp [Rows.uptoBulk]
  | slice elems spare => simp [Rows.uptoBulk]
  | agg parts => simp [Rows.uptoBulk]
  | iface t d => simp [Rows.uptoBulk]
  | map entries => simp [Rows.uptoBulk]
  | held h => simp [Rows.uptoBulk]
theorem Gives.nm {l : List Nat} {w w' : World} {e : Ending} (h : Gives l w e w') : ∃ (n : Nat) (A : Option Addr) (c : Nat), e = .returned (.slice A n c) ∧ Bs w' w'.heap.size A n l ∧ n ≤ c ∧ Below w.heap.size w w' := by
  obtain ⟨A, c, he, hb, hc, hl⟩ := h
  exact ⟨l.length, A, c, he, hb, hc, hl⟩
theorem GivesAt.nm {l : List Nat} {p : Nat} {w w' : World} {e : Ending} (h : GivesAt l p w e w') : ∃ (n : Nat) (A : Option Addr) (c : Nat), e = .returned (.tuple #[.slice A n c, V J p, V J 0]) ∧ Bs w' w'.heap.size A n l ∧ n ≤ c ∧ Below w.heap.size w w' := by
  obtain ⟨A, c, he, hb, hc, hl⟩ := h
  exact ⟨l.length, A, c, he, hb, hc, hl⟩
end Oc
end
section
open Go.RowKit Go.ChangeShapes Go.WideShapes Go.ChangeAt
namespace Oc

end Oc
end
end
end Go.Proofs.YtdfkapehjmmnoaaGreatDoor
