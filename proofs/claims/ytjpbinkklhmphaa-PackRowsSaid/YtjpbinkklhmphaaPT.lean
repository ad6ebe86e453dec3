/-
  THE WALKS of pack's face: what is put behind bytes. Conditions: what is written fits into memory.
-/
import Derived.Test.YtjpbinkklhmphaaPS
namespace Go.Proofs.Ytjpbinkklhmphaa
open Go.RowKit Go.ChangeShapes Go.WideShapes Go.ChangeAt
namespace Pk
open Oc
theorem own_val {w : World} {e : TypeId} {n b s : Nat} {v : Value} {xs : List Value} (h : w.ownsRow b e s v n xs) : ∃ A m c, v = .slice A m c := by
  rcases h.2 with ⟨rfl, _⟩ | ⟨g, cap, cur, rfl, _⟩
  · exact ⟨_, _, _, rfl⟩
  · exact ⟨_, _, _, rfl⟩
theorem ownsRow_up {w : World} {e : TypeId} {n b : Nat} {v : Value} {xs : List Value} (h : w.ownsRow 0 e 1 v n xs) (hb : ∀ g, v.ownBlock = some g → b ≤ g) : w.ownsRow b e 1 v n xs := by
  refine ⟨h.1, ?_⟩
  rcases h.2 with hn | ⟨g, cap, cur, rfl, _, rest⟩
  · exact .inl hn
  · exact .inr ⟨g, cap, cur, rfl, hb g rfl, rest⟩
set_option maxRecDepth 100000 in
set_option maxHeartbeats 400000 in
theorem cloneO_any (A : Option Addr) (n c B : Nat) (l : List Nat) (hf : Fit A n c) (w : World) (h : Bs w B A n l) (hB : B ≤ w.heap.size) :
    Calls Try.prog 23 #[.slice A n c] w (Own l w) := by
  have hq : ∀ (w : World) (a : Option Addr) (n c n' c' : Nat), (binOp .eql 23 (.slice a n c) (.slice none n' c')).run Try.prog w = .ok (.bool a.isNone) w := fun w a n c n' c' => Lib.run_eql_slice_nil w _ _ a n c n' c' Try.underlying23
  have hlen := h.1
  cases A with
  | none =>
    obtain ⟨rfl, rfl⟩ := hf.nil rfl
    obtain rfl : l = [] := List.eq_nil_of_length_eq_zero hlen
    clear hlen hf
    go_enter Try.func23, Try.ntmps23
    go_wp2
    go_ret
    exact ⟨_, rfl, World.ownsRow_nil _ _ _ _, Below.refl _ _⟩
  | some ad =>
    have hn := hf.2.1
    have hown := World.ownsRow_made (e := 5) (size := 1) (base := w.heap.size) w #[] 0 (Nat.le_refl _) (Nat.zero_le _) rfl
    have h2 : Bs (w.alloc (.cells #[] 5)) B (some ad) n l := h.below ((Below.refl _ _).alloc hB _)
    have HN := Lib.hid hlen
    clear hlen
    go_enter Try.func23, Try.ntmps23
    go_wp2_with (at_builtin; refine wpList_append_bytes rfl (.tmp 5) (.tmp 6) _ rfl w.heap.size 5 Try.underlying23 b_info _ 0 [] rfl hown c rfl h2 (by omega) (by simp) ?_; intro v' w' hown' hg)
    have hg' : (w.alloc (.cells #[] 5)).grownBy w' (some w.heap.size) := hg
    have hown2 : w'.ownsRow w.heap.size 5 1 v' n (by8 l) := by simpa using hown'
    clear hg hown'
    go_wp2
    go_ret
    exact ⟨v', rfl, by rw [HN.out]; exact hown2, ((Below.refl _ _).alloc (Nat.le_refl _) _).grown hg' (by simp) (by intro k hk; injection hk with hk; omega)⟩
theorem enters_pHeader : ∀ args w, Sem.run Try.prog (callFunc 22 args) w = .ok (.enter 22 args) w := fun _ _ => by kernel_rfl
set_option maxRecDepth 100000 in
set_option maxHeartbeats 2000000 in
theorem putTHeader_any (A : Option Addr) (n c : Nat) (l : List Nat) (cs : List Value) (d : Header) (w : World) (hb : Bs w w.heap.size A n l) (hf : Fit A n c) (hr : rHeader w [] cs d) (hm : l.length + (cHeader.enc d).length ≤ far) :
    Calls Try.prog 21 #[.slice A n c, .agg cs.toArray, .func (.func 22) #[] #[]] w (Own (l ++ cHeader.enc d) w) := by
  have en := enters_pHeader
  have hcs : cs.toArray.size = 7 := by simp [rok_header.size hr]
  have hi1 : (Try.prog.info? 53).map (·.size) = some cs.toArray.size := by rw [hcs]; kernel_rfl
  have k0 : Keeps [] w (w.alloc (.cells cs.toArray 53)) := (Keeps.refl _ _).alloc _
  have hcl := cloneO_any A n c w.heap.size l hf (w.alloc (.cells cs.toArray 53)) (k0.bs hb (by simp)) k0.size
  have g0 : (w.alloc (.cells cs.toArray 53)).heap[w.heap.size]? = some (.cells cs.toArray 53 (0, 0)) := heap_alloc_new _ _
  have hw0 : (w.alloc (.cells cs.toArray 53)).heap.size = w.heap.size + 1 := by simp
  have HL := Lib.hid hb.2.1
  have H := Lib.hid (And.intro hr (And.intro hm (And.intro k0 (And.intro g0 (And.intro hi1 hw0)))))
  clear hr hm k0 g0 hi1 hcs hb hf hw0
  go_enter Try.func21, Try.ntmps21
  go_wp2_with fail
  refine hcl.mono ?_
  rintro e w1 ⟨v1, rfl, hown, hb1⟩
  obtain ⟨A1, n1, c1, hv1⟩ := own_val hown
  have hz0 := H.out.2.2.2.2.2
  have hlt := fun g e => (hown.lt g e)
  have ka : Keeps [] w1 (w1.alloc (.cells #[v1] 73)) := (Keeps.refl _ _).alloc _
  have kw : Keeps [] w (w1.alloc (.cells #[v1] 73)) := (H.out.2.2.1.then (Keeps.of_below [] hb1)).then ka
  have hO : Out (w1.alloc (.cells #[v1] 73)) w1.heap.size v1 l :=
    ⟨heap_alloc_new _ _, own_kept (own_base hown (Nat.zero_le _)) ka (by simp), fun e => by have := (hlt _ e).2; omega, HL.out⟩
  have hsz := hb1.size
  have hrep := rok_header.kept (X' := xs w1.heap.size v1) H.out.1 kw (by simp) (fun b hb => by
    rcases mem_xs.1 hb with rfl | e
    · exact .inr (by omega)
    · exact .inr (by have := (hlt b e).1; omega))
  have hG : (w1.alloc (.cells #[v1] 73)).heap[w.heap.size]? = some (.cells cs.toArray 53 (0, 0)) := (ka.block _ (by omega) (by simp)).trans ((hb1.block w.heap.size (by omega)).trans H.out.2.2.2.1)
  have hcall := header_wr w1.heap.size v1 l cs d _ hO hrep H.out.2.1
  have HG := Lib.hid (And.intro hG (And.intro kw (And.intro hsz (And.intro hz0 hlt))))
  clear hG kw hsz hz0 hlt ka hO hrep hown hb1
  subst hv1
  go_wp2_with (refine wpList_load_row rfl 53 _ rfl w.heap.size rfl 53 cs.toArray (0, 0) _ HG.out.1 Try.underlying53 rfl H.out.2.2.2.2.1 ?_)
  refine hcall.mono ?_
  rintro e w2 ⟨rfl, v2, O2, S2⟩
  have c0 := O2.c0
  have HO := Lib.hid (And.intro O2 S2)
  clear O2 S2 hcall
  go_wp2_with fail
  go_ret
  obtain ⟨_, kw, hsz, hz0, hlt⟩ := HG.out
  refine ⟨v2, rfl, ownsRow_up HO.out.1.2.1 fun g e => ?_, kw.below (by simp) (Nat.le_refl _) |>.trans (HO.out.2.1.below (fun b hb => ?_) (by simp; omega))⟩
  · rcases HO.out.2.2 g e with e | e
    · have := (hlt g e).1; omega
    · simp at e; omega
  · rcases mem_xs.1 hb with rfl | e
    · omega
    · have := (hlt b e).1; omega
set_option maxRecDepth 100000 in
set_option maxHeartbeats 2000000 in
theorem putHeader_any (A : Option Addr) (n c : Nat) (l : List Nat) (cs : List Value) (d : Header) (w : World) (hb : Bs w w.heap.size A n l) (hf : Fit A n c) (hr : rHeader w [] cs d) (hm : l.length + (cHeader.enc d).length ≤ far) :
    Calls Try.prog 11 #[.slice A n c, .agg cs.toArray] w (Own (l ++ cHeader.enc d) w) := by
  have hcs : cs.toArray.size = 7 := by simp [rok_header.size hr]
  have hi1 : (Try.prog.info? 53).map (·.size) = some cs.toArray.size := by rw [hcs]; kernel_rfl
  have k0 : Keeps [] w (w.alloc (.cells cs.toArray 53)) := (Keeps.refl _ _).alloc _
  have hput := putTHeader_any A n c l cs d (w.alloc (.cells cs.toArray 53)) (hb.on ((Below.refl _ _).alloc (Nat.le_refl _) _)) hf (rok_header.kept (X' := []) hr k0 (by simp) (by simp)) hm
  have g0 : (w.alloc (.cells cs.toArray 53)).heap[w.heap.size]? = some (.cells cs.toArray 53 (0, 0)) := heap_alloc_new _ _
  have H := Lib.hid (And.intro g0 hi1)
  clear g0 hi1 hcs hr hb hm k0
  go_enter Try.func11, Try.ntmps11
  go_wp2_with (refine wpList_load_row rfl 53 _ rfl w.heap.size rfl 53 cs.toArray (0, 0) _ H.out.1 Try.underlying53 rfl H.out.2 ?_)
  refine hput.mono ?_
  rintro e w1 ⟨v1, rfl, hown, hb1⟩
  have HO := Lib.hid (And.intro hown hb1)
  clear hown hb1 hput
  go_wp2_with fail
  go_ret
  exact ⟨v1, rfl, own_base HO.out.1 (by simp), ((Below.refl _ _).alloc (Nat.le_refl _) _).trans (HO.out.2.mono (by simp))⟩
theorem enters_pConf : ∀ args w, Sem.run Try.prog (callFunc 18 args) w = .ok (.enter 18 args) w := fun _ _ => by kernel_rfl
set_option maxRecDepth 100000 in
set_option maxHeartbeats 2000000 in
theorem putTConf_any (A : Option Addr) (n c : Nat) (l : List Nat) (cs : List Value) (d : Conf) (w : World) (hb : Bs w w.heap.size A n l) (hf : Fit A n c) (hr : rConf w [] cs d) (hm : l.length + (cConf.enc d).length ≤ far) :
    Calls Try.prog 17 #[.slice A n c, .agg cs.toArray, .func (.func 18) #[] #[]] w (Own (l ++ cConf.enc d) w) := by
  have en := enters_pConf
  have hcs : cs.toArray.size = 2 := by simp [rok_conf.size hr]
  have hi1 : (Try.prog.info? 37).map (·.size) = some cs.toArray.size := by rw [hcs]; kernel_rfl
  have k0 : Keeps [] w (w.alloc (.cells cs.toArray 37)) := (Keeps.refl _ _).alloc _
  have hcl := cloneO_any A n c w.heap.size l hf (w.alloc (.cells cs.toArray 37)) (k0.bs hb (by simp)) k0.size
  have g0 : (w.alloc (.cells cs.toArray 37)).heap[w.heap.size]? = some (.cells cs.toArray 37 (0, 0)) := heap_alloc_new _ _
  have hw0 : (w.alloc (.cells cs.toArray 37)).heap.size = w.heap.size + 1 := by simp
  have HL := Lib.hid hb.2.1
  have H := Lib.hid (And.intro hr (And.intro hm (And.intro k0 (And.intro g0 (And.intro hi1 hw0)))))
  clear hr hm k0 g0 hi1 hcs hb hf hw0
  go_enter Try.func17, Try.ntmps17
  go_wp2_with fail
  refine hcl.mono ?_
  rintro e w1 ⟨v1, rfl, hown, hb1⟩
  obtain ⟨A1, n1, c1, hv1⟩ := own_val hown
  have hz0 := H.out.2.2.2.2.2
  have hlt := fun g e => (hown.lt g e)
  have ka : Keeps [] w1 (w1.alloc (.cells #[v1] 73)) := (Keeps.refl _ _).alloc _
  have kw : Keeps [] w (w1.alloc (.cells #[v1] 73)) := (H.out.2.2.1.then (Keeps.of_below [] hb1)).then ka
  have hO : Out (w1.alloc (.cells #[v1] 73)) w1.heap.size v1 l :=
    ⟨heap_alloc_new _ _, own_kept (own_base hown (Nat.zero_le _)) ka (by simp), fun e => by have := (hlt _ e).2; omega, HL.out⟩
  have hsz := hb1.size
  have hrep := rok_conf.kept (X' := xs w1.heap.size v1) H.out.1 kw (by simp) (fun b hb => by
    rcases mem_xs.1 hb with rfl | e
    · exact .inr (by omega)
    · exact .inr (by have := (hlt b e).1; omega))
  have hG : (w1.alloc (.cells #[v1] 73)).heap[w.heap.size]? = some (.cells cs.toArray 37 (0, 0)) := (ka.block _ (by omega) (by simp)).trans ((hb1.block w.heap.size (by omega)).trans H.out.2.2.2.1)
  have hcall := conf_wr w1.heap.size v1 l cs d _ hO hrep H.out.2.1
  have HG := Lib.hid (And.intro hG (And.intro kw (And.intro hsz (And.intro hz0 hlt))))
  clear hG kw hsz hz0 hlt ka hO hrep hown hb1
  subst hv1
  go_wp2_with (refine wpList_load_row rfl 37 _ rfl w.heap.size rfl 37 cs.toArray (0, 0) _ HG.out.1 Try.underlying37 rfl H.out.2.2.2.2.1 ?_)
  refine hcall.mono ?_
  rintro e w2 ⟨rfl, v2, O2, S2⟩
  have c0 := O2.c0
  have HO := Lib.hid (And.intro O2 S2)
  clear O2 S2 hcall
  go_wp2_with fail
  go_ret
  obtain ⟨_, kw, hsz, hz0, hlt⟩ := HG.out
  refine ⟨v2, rfl, ownsRow_up HO.out.1.2.1 fun g e => ?_, kw.below (by simp) (Nat.le_refl _) |>.trans (HO.out.2.1.below (fun b hb => ?_) (by simp; omega))⟩
  · rcases HO.out.2.2 g e with e | e
    · have := (hlt g e).1; omega
    · simp at e; omega
  · rcases mem_xs.1 hb with rfl | e
    · omega
    · have := (hlt b e).1; omega
set_option maxRecDepth 100000 in
set_option maxHeartbeats 2000000 in
theorem putConf_any (A : Option Addr) (n c : Nat) (l : List Nat) (cs : List Value) (d : Conf) (w : World) (hb : Bs w w.heap.size A n l) (hf : Fit A n c) (hr : rConf w [] cs d) (hm : l.length + (cConf.enc d).length ≤ far) :
    Calls Try.prog 8 #[.slice A n c, .agg cs.toArray] w (Own (l ++ cConf.enc d) w) := by
  have hcs : cs.toArray.size = 2 := by simp [rok_conf.size hr]
  have hi1 : (Try.prog.info? 37).map (·.size) = some cs.toArray.size := by rw [hcs]; kernel_rfl
  have k0 : Keeps [] w (w.alloc (.cells cs.toArray 37)) := (Keeps.refl _ _).alloc _
  have hput := putTConf_any A n c l cs d (w.alloc (.cells cs.toArray 37)) (hb.on ((Below.refl _ _).alloc (Nat.le_refl _) _)) hf (rok_conf.kept (X' := []) hr k0 (by simp) (by simp)) hm
  have g0 : (w.alloc (.cells cs.toArray 37)).heap[w.heap.size]? = some (.cells cs.toArray 37 (0, 0)) := heap_alloc_new _ _
  have H := Lib.hid (And.intro g0 hi1)
  clear g0 hi1 hcs hr hb hm k0
  go_enter Try.func8, Try.ntmps8
  go_wp2_with (refine wpList_load_row rfl 37 _ rfl w.heap.size rfl 37 cs.toArray (0, 0) _ H.out.1 Try.underlying37 rfl H.out.2 ?_)
  refine hput.mono ?_
  rintro e w1 ⟨v1, rfl, hown, hb1⟩
  have HO := Lib.hid (And.intro hown hb1)
  clear hown hb1 hput
  go_wp2_with fail
  go_ret
  exact ⟨v1, rfl, own_base HO.out.1 (by simp), ((Below.refl _ _).alloc (Nat.le_refl _) _).trans (HO.out.2.mono (by simp))⟩
theorem enters_pMap : ∀ args w, Sem.run Try.prog (callFunc 42 args) w = .ok (.enter 42 args) w := fun _ _ => by kernel_rfl
theorem enters_pCmd : ∀ args w, Sem.run Try.prog (callFunc 26 args) w = .ok (.enter 26 args) w := fun _ _ => by kernel_rfl
theorem enters_pEntry : ∀ args w, Sem.run Try.prog (callFunc 13 args) w = .ok (.enter 13 args) w := fun _ _ => by kernel_rfl
set_option maxRecDepth 100000 in
set_option maxHeartbeats 2000000 in
theorem putTEntry_any (A : Option Addr) (n c : Nat) (l : List Nat) (cs : List Value) (d : Entry) (w : World) (hb : Bs w w.heap.size A n l) (hf : Fit A n c) (hr : rEntry w [] cs d) (hm : l.length + (cEntry.enc d).length ≤ far) :
    Calls Try.prog 12 #[.slice A n c, .agg cs.toArray, .func (.func 13) #[] #[]] w (Own (l ++ cEntry.enc d) w) := by
  have en := enters_pEntry
  have hcs : cs.toArray.size = 21 := by simp [rok_entry.size hr]
  have hi1 : (Try.prog.info? 39).map (·.size) = some cs.toArray.size := by rw [hcs]; kernel_rfl
  have k0 : Keeps [] w (w.alloc (.cells cs.toArray 39)) := (Keeps.refl _ _).alloc _
  have hcl := cloneO_any A n c w.heap.size l hf (w.alloc (.cells cs.toArray 39)) (k0.bs hb (by simp)) k0.size
  have g0 : (w.alloc (.cells cs.toArray 39)).heap[w.heap.size]? = some (.cells cs.toArray 39 (0, 0)) := heap_alloc_new _ _
  have hw0 : (w.alloc (.cells cs.toArray 39)).heap.size = w.heap.size + 1 := by simp
  have HL := Lib.hid hb.2.1
  have H := Lib.hid (And.intro hr (And.intro hm (And.intro k0 (And.intro g0 (And.intro hi1 hw0)))))
  clear hr hm k0 g0 hi1 hcs hb hf hw0
  go_enter Try.func12, Try.ntmps12
  go_wp2_with fail
  refine hcl.mono ?_
  rintro e w1 ⟨v1, rfl, hown, hb1⟩
  obtain ⟨A1, n1, c1, hv1⟩ := own_val hown
  have hz0 := H.out.2.2.2.2.2
  have hlt := fun g e => (hown.lt g e)
  have ka : Keeps [] w1 (w1.alloc (.cells #[v1] 73)) := (Keeps.refl _ _).alloc _
  have kw : Keeps [] w (w1.alloc (.cells #[v1] 73)) := (H.out.2.2.1.then (Keeps.of_below [] hb1)).then ka
  have hO : Out (w1.alloc (.cells #[v1] 73)) w1.heap.size v1 l :=
    ⟨heap_alloc_new _ _, own_kept (own_base hown (Nat.zero_le _)) ka (by simp), fun e => by have := (hlt _ e).2; omega, HL.out⟩
  have hsz := hb1.size
  have hrep := rok_entry.kept (X' := xs w1.heap.size v1) H.out.1 kw (by simp) (fun b hb => by
    rcases mem_xs.1 hb with rfl | e
    · exact .inr (by omega)
    · exact .inr (by have := (hlt b e).1; omega))
  have hG : (w1.alloc (.cells #[v1] 73)).heap[w.heap.size]? = some (.cells cs.toArray 39 (0, 0)) := (ka.block _ (by omega) (by simp)).trans ((hb1.block w.heap.size (by omega)).trans H.out.2.2.2.1)
  have hcall := entry_wr w1.heap.size v1 l cs d _ hO hrep H.out.2.1
  have HG := Lib.hid (And.intro hG (And.intro kw (And.intro hsz (And.intro hz0 hlt))))
  clear hG kw hsz hz0 hlt ka hO hrep hown hb1
  subst hv1
  go_wp2_with (refine wpList_load_row rfl 39 _ rfl w.heap.size rfl 39 cs.toArray (0, 0) _ HG.out.1 Try.underlying39 rfl H.out.2.2.2.2.1 ?_)
  refine hcall.mono ?_
  rintro e w2 ⟨rfl, v2, O2, S2⟩
  have c0 := O2.c0
  have HO := Lib.hid (And.intro O2 S2)
  clear O2 S2 hcall
  go_wp2_with fail
  go_ret
  obtain ⟨_, kw, hsz, hz0, hlt⟩ := HG.out
  refine ⟨v2, rfl, ownsRow_up HO.out.1.2.1 fun g e => ?_, kw.below (by simp) (Nat.le_refl _) |>.trans (HO.out.2.1.below (fun b hb => ?_) (by simp; omega))⟩
  · rcases HO.out.2.2 g e with e | e
    · have := (hlt g e).1; omega
    · simp at e; omega
  · rcases mem_xs.1 hb with rfl | e
    · omega
    · have := (hlt b e).1; omega
set_option maxRecDepth 100000 in
set_option maxHeartbeats 2000000 in
theorem putEntry_any (A : Option Addr) (n c : Nat) (l : List Nat) (cs : List Value) (d : Entry) (w : World) (hb : Bs w w.heap.size A n l) (hf : Fit A n c) (hr : rEntry w [] cs d) (hm : l.length + (cEntry.enc d).length ≤ far) :
    Calls Try.prog 5 #[.slice A n c, .agg cs.toArray] w (Own (l ++ cEntry.enc d) w) := by
  have hcs : cs.toArray.size = 21 := by simp [rok_entry.size hr]
  have hi1 : (Try.prog.info? 39).map (·.size) = some cs.toArray.size := by rw [hcs]; kernel_rfl
  have k0 : Keeps [] w (w.alloc (.cells cs.toArray 39)) := (Keeps.refl _ _).alloc _
  have hput := putTEntry_any A n c l cs d (w.alloc (.cells cs.toArray 39)) (hb.on ((Below.refl _ _).alloc (Nat.le_refl _) _)) hf (rok_entry.kept (X' := []) hr k0 (by simp) (by simp)) hm
  have g0 : (w.alloc (.cells cs.toArray 39)).heap[w.heap.size]? = some (.cells cs.toArray 39 (0, 0)) := heap_alloc_new _ _
  have H := Lib.hid (And.intro g0 hi1)
  clear g0 hi1 hcs hr hb hm k0
  go_enter Try.func5, Try.ntmps5
  go_wp2_with (refine wpList_load_row rfl 39 _ rfl w.heap.size rfl 39 cs.toArray (0, 0) _ H.out.1 Try.underlying39 rfl H.out.2 ?_)
  refine hput.mono ?_
  rintro e w1 ⟨v1, rfl, hown, hb1⟩
  have HO := Lib.hid (And.intro hown hb1)
  clear hown hb1 hput
  go_wp2_with fail
  go_ret
  exact ⟨v1, rfl, own_base HO.out.1 (by simp), ((Below.refl _ _).alloc (Nat.le_refl _) _).trans (HO.out.2.mono (by simp))⟩
end Pk
end Go.Proofs.Ytjpbinkklhmphaa
