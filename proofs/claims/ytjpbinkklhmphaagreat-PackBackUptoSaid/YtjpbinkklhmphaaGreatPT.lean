/-
  THE WALKS of pack's face: what is put behind bytes. Conditions: what is written fits into memory.
-/
import Derived.Test.YtjpbinkklhmphaaGreatPS
namespace Go.Proofs.YtjpbinkklhmphaaGreat
open Go.RowKit Go.ChangeShapes Go.WideShapes Go.ChangeAt
namespace Pk
open Oc
theorem own_val {w : World} {e : TypeId} {n b s : Nat} {v : Value} {xs : List Value} (h : w.ownsRow b e s v n xs) : ∃ A m c, v = .slice A m c := by
  rcases h.2 with ⟨rfl, _⟩ | ⟨g, cap, cur, rfl, _⟩
  · exact ⟨_, _, _, rfl⟩
  · exact ⟨_, _, _, rfl⟩
theorem ownsRow_up {w : World} {e : TypeId} {n b : Nat} {v : Value} {xs : List Value} (h : w.ownsRow 0 e 1 v n xs) (hb : ∀ g, v.ownBlock = some g → b ≤ g) : w.ownsRow b e 1 v n xs := by
  refine ⟨h.1, ?_⟩
  rcases h.2 with hn | ⟨g, cap, cur, rfl, _, rest⟩
  · exact .inl hn
  · exact .inr ⟨g, cap, cur, rfl, hb g rfl, rest⟩
set_option maxRecDepth 100000 in
set_option maxHeartbeats 400000 in
theorem cloneO_any (A : Option Addr) (n c B : Nat) (l : List Nat) (hf : Fit A n c) (w : World) (h : Bs w B A n l) (hB : B ≤ w.heap.size) :
    Calls Tryz.prog 76 #[.slice A n c] w (Own l w) := by
  have hq : ∀ (w : World) (a : Option Addr) (n c n' c' : Nat), (binOp .eql 22 (.slice a n c) (.slice none n' c')).run Tryz.prog w = .ok (.bool a.isNone) w := fun w a n c n' c' => Lib.run_eql_slice_nil w _ _ a n c n' c' Tryz.underlying22
  have hlen := h.1
  cases A with
  | none =>
    obtain ⟨rfl, rfl⟩ := hf.nil rfl
    obtain rfl : l = [] := List.eq_nil_of_length_eq_zero hlen
    clear hlen hf
    go_enter Tryz.func76, Tryz.ntmps76
    go_wp2
    go_ret
    exact ⟨_, rfl, World.ownsRow_nil _ _ _ _, Below.refl _ _⟩
  | some ad =>
    have hn := hf.2.1
    have hown := World.ownsRow_made (e := 5) (size := 1) (base := w.heap.size) w #[] 0 (Nat.le_refl _) (Nat.zero_le _) rfl
    have h2 : Bs (w.alloc (.cells #[] 5)) B (some ad) n l := h.below ((Below.refl _ _).alloc hB _)
    have HN := Lib.hid hlen
    clear hlen
    go_enter Tryz.func76, Tryz.ntmps76
    go_wp2_with (at_builtin; refine wpList_append_bytes rfl (.tmp 5) (.tmp 6) _ rfl w.heap.size 5 Tryz.underlying22 b_info _ 0 [] rfl hown c rfl h2 (by omega) (by simp) ?_; intro v' w' hown' hg)
    have hg' : (w.alloc (.cells #[] 5)).grownBy w' (some w.heap.size) := hg
    have hown2 : w'.ownsRow w.heap.size 5 1 v' n (by8 l) := by simpa using hown'
    clear hg hown'
    go_wp2
    go_ret
    exact ⟨v', rfl, by rw [HN.out]; exact hown2, ((Below.refl _ _).alloc (Nat.le_refl _) _).grown hg' (by simp) (by intro k hk; injection hk with hk; omega)⟩
theorem enters_pHeader : ∀ args w, Sem.run Tryz.prog (callFunc 38 args) w = .ok (.enter 38 args) w := fun _ _ => by kernel_rfl
set_option maxRecDepth 100000 in
set_option maxHeartbeats 2000000 in
theorem putTHeader_any (A : Option Addr) (n c : Nat) (l : List Nat) (cs : List Value) (d : Header) (w : World) (hb : Bs w w.heap.size A n l) (hf : Fit A n c) (hr : rHeader w [] cs d) (hm : l.length + (cHeader.enc d).length ≤ far) :
    Calls Tryz.prog 37 #[.slice A n c, .agg cs.toArray, .func (.func 38) #[] #[]] w (Own (l ++ cHeader.enc d) w) := by
  have en := enters_pHeader
  have hcs : cs.toArray.size = 7 := by simp [rok_header.size hr]
  have hi1 : (Tryz.prog.info? 28).map (·.size) = some cs.toArray.size := by rw [hcs]; kernel_rfl
  have k0 : Keeps [] w (w.alloc (.cells cs.toArray 28)) := (Keeps.refl _ _).alloc _
  have hcl := cloneO_any A n c w.heap.size l hf (w.alloc (.cells cs.toArray 28)) (k0.bs hb (by simp)) k0.size
  have g0 : (w.alloc (.cells cs.toArray 28)).heap[w.heap.size]? = some (.cells cs.toArray 28 (0, 0)) := heap_alloc_new _ _
  have hw0 : (w.alloc (.cells cs.toArray 28)).heap.size = w.heap.size + 1 := by simp
  have HL := Lib.hid hb.2.1
  have H := Lib.hid (And.intro hr (And.intro hm (And.intro k0 (And.intro g0 (And.intro hi1 hw0)))))
  clear hr hm k0 g0 hi1 hcs hb hf hw0
  go_enter Tryz.func37, Tryz.ntmps37
  go_wp2_with fail
  refine hcl.mono ?_
  rintro e w1 ⟨v1, rfl, hown, hb1⟩
  obtain ⟨A1, n1, c1, hv1⟩ := own_val hown
  have hz0 := H.out.2.2.2.2.2
  have hlt := fun g e => (hown.lt g e)
  have ka : Keeps [] w1 (w1.alloc (.cells #[v1] 152)) := (Keeps.refl _ _).alloc _
  have kw : Keeps [] w (w1.alloc (.cells #[v1] 152)) := (H.out.2.2.1.then (Keeps.of_below [] hb1)).then ka
  have hO : Out (w1.alloc (.cells #[v1] 152)) w1.heap.size v1 l :=
    ⟨heap_alloc_new _ _, own_kept (own_base hown (Nat.zero_le _)) ka (by simp), fun e => by have := (hlt _ e).2; omega, HL.out⟩
  have hsz := hb1.size
  have hrep := rok_header.kept (X' := xs w1.heap.size v1) H.out.1 kw (by simp) (fun b hb => by
    rcases mem_xs.1 hb with rfl | e
    · exact .inr (by omega)
    · exact .inr (by have := (hlt b e).1; omega))
  have hG : (w1.alloc (.cells #[v1] 152)).heap[w.heap.size]? = some (.cells cs.toArray 28 (0, 0)) := (ka.block _ (by omega) (by simp)).trans ((hb1.block w.heap.size (by omega)).trans H.out.2.2.2.1)
  have hcall := header_wr w1.heap.size v1 l cs d _ hO hrep H.out.2.1
  have HG := Lib.hid (And.intro hG (And.intro kw (And.intro hsz (And.intro hz0 hlt))))
  clear hG kw hsz hz0 hlt ka hO hrep hown hb1
  subst hv1
  go_wp2_with (refine wpList_load_row rfl 28 _ rfl w.heap.size rfl 28 cs.toArray (0, 0) _ HG.out.1 Tryz.underlying28 rfl H.out.2.2.2.2.1 ?_)
  refine hcall.mono ?_
  rintro e w2 ⟨rfl, v2, O2, S2⟩
  have c0 := O2.c0
  have HO := Lib.hid (And.intro O2 S2)
  clear O2 S2 hcall
  go_wp2_with fail
  go_ret
  obtain ⟨_, kw, hsz, hz0, hlt⟩ := HG.out
  refine ⟨v2, rfl, ownsRow_up HO.out.1.2.1 fun g e => ?_, kw.below (by simp) (Nat.le_refl _) |>.trans (HO.out.2.1.below (fun b hb => ?_) (by simp; omega))⟩
  · rcases HO.out.2.2 g e with e | e
    · have := (hlt g e).1; omega
    · simp at e; omega
  · rcases mem_xs.1 hb with rfl | e
    · omega
    · have := (hlt b e).1; omega
set_option maxRecDepth 100000 in
set_option maxHeartbeats 2000000 in
theorem putHeader_any (A : Option Addr) (n c : Nat) (l : List Nat) (cs : List Value) (d : Header) (w : World) (hb : Bs w w.heap.size A n l) (hf : Fit A n c) (hr : rHeader w [] cs d) (hm : l.length + (cHeader.enc d).length ≤ far) :
    Calls Tryz.prog 9 #[.slice A n c, .agg cs.toArray] w (Own (l ++ cHeader.enc d) w) := by
  have hcs : cs.toArray.size = 7 := by simp [rok_header.size hr]
  have hi1 : (Tryz.prog.info? 28).map (·.size) = some cs.toArray.size := by rw [hcs]; kernel_rfl
  have k0 : Keeps [] w (w.alloc (.cells cs.toArray 28)) := (Keeps.refl _ _).alloc _
  have hput := putTHeader_any A n c l cs d (w.alloc (.cells cs.toArray 28)) (hb.on ((Below.refl _ _).alloc (Nat.le_refl _) _)) hf (rok_header.kept (X' := []) hr k0 (by simp) (by simp)) hm
  have g0 : (w.alloc (.cells cs.toArray 28)).heap[w.heap.size]? = some (.cells cs.toArray 28 (0, 0)) := heap_alloc_new _ _
  have H := Lib.hid (And.intro g0 hi1)
  clear g0 hi1 hcs hr hb hm k0
  go_enter Tryz.func9, Tryz.ntmps9
  go_wp2_with (refine wpList_load_row rfl 28 _ rfl w.heap.size rfl 28 cs.toArray (0, 0) _ H.out.1 Tryz.underlying28 rfl H.out.2 ?_)
  refine hput.mono ?_
  rintro e w1 ⟨v1, rfl, hown, hb1⟩
  have HO := Lib.hid (And.intro hown hb1)
  clear hown hb1 hput
  go_wp2_with fail
  go_ret
  exact ⟨v1, rfl, own_base HO.out.1 (by simp), ((Below.refl _ _).alloc (Nat.le_refl _) _).trans (HO.out.2.mono (by simp))⟩
theorem enters_pConf : ∀ args w, Sem.run Tryz.prog (callFunc 44 args) w = .ok (.enter 44 args) w := fun _ _ => by kernel_rfl
set_option maxRecDepth 100000 in
set_option maxHeartbeats 2000000 in
theorem putTConf_any (A : Option Addr) (n c : Nat) (l : List Nat) (cs : List Value) (d : Conf) (w : World) (hb : Bs w w.heap.size A n l) (hf : Fit A n c) (hr : rConf w [] cs d) (hm : l.length + (cConf.enc d).length ≤ far) :
    Calls Tryz.prog 43 #[.slice A n c, .agg cs.toArray, .func (.func 44) #[] #[]] w (Own (l ++ cConf.enc d) w) := by
  have en := enters_pConf
  have hcs : cs.toArray.size = 2 := by simp [rok_conf.size hr]
  have hi1 : (Tryz.prog.info? 38).map (·.size) = some cs.toArray.size := by rw [hcs]; kernel_rfl
  have k0 : Keeps [] w (w.alloc (.cells cs.toArray 38)) := (Keeps.refl _ _).alloc _
  have hcl := cloneO_any A n c w.heap.size l hf (w.alloc (.cells cs.toArray 38)) (k0.bs hb (by simp)) k0.size
  have g0 : (w.alloc (.cells cs.toArray 38)).heap[w.heap.size]? = some (.cells cs.toArray 38 (0, 0)) := heap_alloc_new _ _
  have hw0 : (w.alloc (.cells cs.toArray 38)).heap.size = w.heap.size + 1 := by simp
  have HL := Lib.hid hb.2.1
  have H := Lib.hid (And.intro hr (And.intro hm (And.intro k0 (And.intro g0 (And.intro hi1 hw0)))))
  clear hr hm k0 g0 hi1 hcs hb hf hw0
  go_enter Tryz.func43, Tryz.ntmps43
  go_wp2_with fail
  refine hcl.mono ?_
  rintro e w1 ⟨v1, rfl, hown, hb1⟩
  obtain ⟨A1, n1, c1, hv1⟩ := own_val hown
  have hz0 := H.out.2.2.2.2.2
  have hlt := fun g e => (hown.lt g e)
  have ka : Keeps [] w1 (w1.alloc (.cells #[v1] 152)) := (Keeps.refl _ _).alloc _
  have kw : Keeps [] w (w1.alloc (.cells #[v1] 152)) := (H.out.2.2.1.then (Keeps.of_below [] hb1)).then ka
  have hO : Out (w1.alloc (.cells #[v1] 152)) w1.heap.size v1 l :=
    ⟨heap_alloc_new _ _, own_kept (own_base hown (Nat.zero_le _)) ka (by simp), fun e => by have := (hlt _ e).2; omega, HL.out⟩
  have hsz := hb1.size
  have hrep := rok_conf.kept (X' := xs w1.heap.size v1) H.out.1 kw (by simp) (fun b hb => by
    rcases mem_xs.1 hb with rfl | e
    · exact .inr (by omega)
    · exact .inr (by have := (hlt b e).1; omega))
  have hG : (w1.alloc (.cells #[v1] 152)).heap[w.heap.size]? = some (.cells cs.toArray 38 (0, 0)) := (ka.block _ (by omega) (by simp)).trans ((hb1.block w.heap.size (by omega)).trans H.out.2.2.2.1)
  have hcall := conf_wr w1.heap.size v1 l cs d _ hO hrep H.out.2.1
  have HG := Lib.hid (And.intro hG (And.intro kw (And.intro hsz (And.intro hz0 hlt))))
  clear hG kw hsz hz0 hlt ka hO hrep hown hb1
  subst hv1
  go_wp2_with (refine wpList_load_row rfl 38 _ rfl w.heap.size rfl 38 cs.toArray (0, 0) _ HG.out.1 Tryz.underlying38 rfl H.out.2.2.2.2.1 ?_)
  refine hcall.mono ?_
  rintro e w2 ⟨rfl, v2, O2, S2⟩
  have c0 := O2.c0
  have HO := Lib.hid (And.intro O2 S2)
  clear O2 S2 hcall
  go_wp2_with fail
  go_ret
  obtain ⟨_, kw, hsz, hz0, hlt⟩ := HG.out
  refine ⟨v2, rfl, ownsRow_up HO.out.1.2.1 fun g e => ?_, kw.below (by simp) (Nat.le_refl _) |>.trans (HO.out.2.1.below (fun b hb => ?_) (by simp; omega))⟩
  · rcases HO.out.2.2 g e with e | e
    · have := (hlt g e).1; omega
    · simp at e; omega
  · rcases mem_xs.1 hb with rfl | e
    · omega
    · have := (hlt b e).1; omega
set_option maxRecDepth 100000 in
set_option maxHeartbeats 2000000 in
theorem putConf_any (A : Option Addr) (n c : Nat) (l : List Nat) (cs : List Value) (d : Conf) (w : World) (hb : Bs w w.heap.size A n l) (hf : Fit A n c) (hr : rConf w [] cs d) (hm : l.length + (cConf.enc d).length ≤ far) :
    Calls Tryz.prog 13 #[.slice A n c, .agg cs.toArray] w (Own (l ++ cConf.enc d) w) := by
  have hcs : cs.toArray.size = 2 := by simp [rok_conf.size hr]
  have hi1 : (Tryz.prog.info? 38).map (·.size) = some cs.toArray.size := by rw [hcs]; kernel_rfl
  have k0 : Keeps [] w (w.alloc (.cells cs.toArray 38)) := (Keeps.refl _ _).alloc _
  have hput := putTConf_any A n c l cs d (w.alloc (.cells cs.toArray 38)) (hb.on ((Below.refl _ _).alloc (Nat.le_refl _) _)) hf (rok_conf.kept (X' := []) hr k0 (by simp) (by simp)) hm
  have g0 : (w.alloc (.cells cs.toArray 38)).heap[w.heap.size]? = some (.cells cs.toArray 38 (0, 0)) := heap_alloc_new _ _
  have H := Lib.hid (And.intro g0 hi1)
  clear g0 hi1 hcs hr hb hm k0
  go_enter Tryz.func13, Tryz.ntmps13
  go_wp2_with (refine wpList_load_row rfl 38 _ rfl w.heap.size rfl 38 cs.toArray (0, 0) _ H.out.1 Tryz.underlying38 rfl H.out.2 ?_)
  refine hput.mono ?_
  rintro e w1 ⟨v1, rfl, hown, hb1⟩
  have HO := Lib.hid (And.intro hown hb1)
  clear hown hb1 hput
  go_wp2_with fail
  go_ret
  exact ⟨v1, rfl, own_base HO.out.1 (by simp), ((Below.refl _ _).alloc (Nat.le_refl _) _).trans (HO.out.2.mono (by simp))⟩
theorem enters_pCmd : ∀ args w, Sem.run Tryz.prog (callFunc 56 args) w = .ok (.enter 56 args) w := fun _ _ => by kernel_rfl
set_option maxRecDepth 100000 in
set_option maxHeartbeats 2000000 in
theorem putTCmd_any (A : Option Addr) (n c : Nat) (l : List Nat) (cs : List Value) (d : Cmd) (w : World) (hb : Bs w w.heap.size A n l) (hf : Fit A n c) (hr : rCmd w [] cs d) (hm : l.length + (cCmd.enc d).length ≤ far) :
    Calls Tryz.prog 55 #[.slice A n c, .agg cs.toArray, .func (.func 56) #[] #[]] w (Own (l ++ cCmd.enc d) w) := by
  have en := enters_pCmd
  have hcs : cs.toArray.size = 16 := by simp [rok_cmd.size hr]
  have hi1 : (Tryz.prog.info? 56).map (·.size) = some cs.toArray.size := by rw [hcs]; kernel_rfl
  have k0 : Keeps [] w (w.alloc (.cells cs.toArray 56)) := (Keeps.refl _ _).alloc _
  have hcl := cloneO_any A n c w.heap.size l hf (w.alloc (.cells cs.toArray 56)) (k0.bs hb (by simp)) k0.size
  have g0 : (w.alloc (.cells cs.toArray 56)).heap[w.heap.size]? = some (.cells cs.toArray 56 (0, 0)) := heap_alloc_new _ _
  have hw0 : (w.alloc (.cells cs.toArray 56)).heap.size = w.heap.size + 1 := by simp
  have HL := Lib.hid hb.2.1
  have H := Lib.hid (And.intro hr (And.intro hm (And.intro k0 (And.intro g0 (And.intro hi1 hw0)))))
  clear hr hm k0 g0 hi1 hcs hb hf hw0
  go_enter Tryz.func55, Tryz.ntmps55
  go_wp2_with fail
  refine hcl.mono ?_
  rintro e w1 ⟨v1, rfl, hown, hb1⟩
  obtain ⟨A1, n1, c1, hv1⟩ := own_val hown
  have hz0 := H.out.2.2.2.2.2
  have hlt := fun g e => (hown.lt g e)
  have ka : Keeps [] w1 (w1.alloc (.cells #[v1] 152)) := (Keeps.refl _ _).alloc _
  have kw : Keeps [] w (w1.alloc (.cells #[v1] 152)) := (H.out.2.2.1.then (Keeps.of_below [] hb1)).then ka
  have hO : Out (w1.alloc (.cells #[v1] 152)) w1.heap.size v1 l :=
    ⟨heap_alloc_new _ _, own_kept (own_base hown (Nat.zero_le _)) ka (by simp), fun e => by have := (hlt _ e).2; omega, HL.out⟩
  have hsz := hb1.size
  have hrep := rok_cmd.kept (X' := xs w1.heap.size v1) H.out.1 kw (by simp) (fun b hb => by
    rcases mem_xs.1 hb with rfl | e
    · exact .inr (by omega)
    · exact .inr (by have := (hlt b e).1; omega))
  have hG : (w1.alloc (.cells #[v1] 152)).heap[w.heap.size]? = some (.cells cs.toArray 56 (0, 0)) := (ka.block _ (by omega) (by simp)).trans ((hb1.block w.heap.size (by omega)).trans H.out.2.2.2.1)
  have hcall := cmd_wr w1.heap.size v1 l cs d _ hO hrep H.out.2.1
  have HG := Lib.hid (And.intro hG (And.intro kw (And.intro hsz (And.intro hz0 hlt))))
  clear hG kw hsz hz0 hlt ka hO hrep hown hb1
  subst hv1
  go_wp2_with (refine wpList_load_row rfl 56 _ rfl w.heap.size rfl 56 cs.toArray (0, 0) _ HG.out.1 Tryz.underlying56 rfl H.out.2.2.2.2.1 ?_)
  refine hcall.mono ?_
  rintro e w2 ⟨rfl, v2, O2, S2⟩
  have c0 := O2.c0
  have HO := Lib.hid (And.intro O2 S2)
  clear O2 S2 hcall
  go_wp2_with fail
  go_ret
  obtain ⟨_, kw, hsz, hz0, hlt⟩ := HG.out
  refine ⟨v2, rfl, ownsRow_up HO.out.1.2.1 fun g e => ?_, kw.below (by simp) (Nat.le_refl _) |>.trans (HO.out.2.1.below (fun b hb => ?_) (by simp; omega))⟩
  · rcases HO.out.2.2 g e with e | e
    · have := (hlt g e).1; omega
    · simp at e; omega
  · rcases mem_xs.1 hb with rfl | e
    · omega
    · have := (hlt b e).1; omega
set_option maxRecDepth 100000 in
set_option maxHeartbeats 2000000 in
theorem putCmd_any (A : Option Addr) (n c : Nat) (l : List Nat) (cs : List Value) (d : Cmd) (w : World) (hb : Bs w w.heap.size A n l) (hf : Fit A n c) (hr : rCmd w [] cs d) (hm : l.length + (cCmd.enc d).length ≤ far) :
    Calls Tryz.prog 21 #[.slice A n c, .agg cs.toArray] w (Own (l ++ cCmd.enc d) w) := by
  have hcs : cs.toArray.size = 16 := by simp [rok_cmd.size hr]
  have hi1 : (Tryz.prog.info? 56).map (·.size) = some cs.toArray.size := by rw [hcs]; kernel_rfl
  have k0 : Keeps [] w (w.alloc (.cells cs.toArray 56)) := (Keeps.refl _ _).alloc _
  have hput := putTCmd_any A n c l cs d (w.alloc (.cells cs.toArray 56)) (hb.on ((Below.refl _ _).alloc (Nat.le_refl _) _)) hf (rok_cmd.kept (X' := []) hr k0 (by simp) (by simp)) hm
  have g0 : (w.alloc (.cells cs.toArray 56)).heap[w.heap.size]? = some (.cells cs.toArray 56 (0, 0)) := heap_alloc_new _ _
  have H := Lib.hid (And.intro g0 hi1)
  clear g0 hi1 hcs hr hb hm k0
  go_enter Tryz.func21, Tryz.ntmps21
  go_wp2_with (refine wpList_load_row rfl 56 _ rfl w.heap.size rfl 56 cs.toArray (0, 0) _ H.out.1 Tryz.underlying56 rfl H.out.2 ?_)
  refine hput.mono ?_
  rintro e w1 ⟨v1, rfl, hown, hb1⟩
  have HO := Lib.hid (And.intro hown hb1)
  clear hown hb1 hput
  go_wp2_with fail
  go_ret
  exact ⟨v1, rfl, own_base HO.out.1 (by simp), ((Below.refl _ _).alloc (Nat.le_refl _) _).trans (HO.out.2.mono (by simp))⟩
theorem enters_pEntry : ∀ args w, Sem.run Tryz.prog (callFunc 62 args) w = .ok (.enter 62 args) w := fun _ _ => by kernel_rfl
set_option maxRecDepth 100000 in
set_option maxHeartbeats 2000000 in
theorem putTEntry_any (A : Option Addr) (n c : Nat) (l : List Nat) (cs : List Value) (d : Entry) (w : World) (hb : Bs w w.heap.size A n l) (hf : Fit A n c) (hr : rEntry w [] cs d) (hm : l.length + (cEntry.enc d).length ≤ far) :
    Calls Tryz.prog 61 #[.slice A n c, .agg cs.toArray, .func (.func 62) #[] #[]] w (Own (l ++ cEntry.enc d) w) := by
  have en := enters_pEntry
  have hcs : cs.toArray.size = 21 := by simp [rok_entry.size hr]
  have hi1 : (Tryz.prog.info? 67).map (·.size) = some cs.toArray.size := by rw [hcs]; kernel_rfl
  have k0 : Keeps [] w (w.alloc (.cells cs.toArray 67)) := (Keeps.refl _ _).alloc _
  have hcl := cloneO_any A n c w.heap.size l hf (w.alloc (.cells cs.toArray 67)) (k0.bs hb (by simp)) k0.size
  have g0 : (w.alloc (.cells cs.toArray 67)).heap[w.heap.size]? = some (.cells cs.toArray 67 (0, 0)) := heap_alloc_new _ _
  have hw0 : (w.alloc (.cells cs.toArray 67)).heap.size = w.heap.size + 1 := by simp
  have HL := Lib.hid hb.2.1
  have H := Lib.hid (And.intro hr (And.intro hm (And.intro k0 (And.intro g0 (And.intro hi1 hw0)))))
  clear hr hm k0 g0 hi1 hcs hb hf hw0
  go_enter Tryz.func61, Tryz.ntmps61
  go_wp2_with fail
  refine hcl.mono ?_
  rintro e w1 ⟨v1, rfl, hown, hb1⟩
  obtain ⟨A1, n1, c1, hv1⟩ := own_val hown
  have hz0 := H.out.2.2.2.2.2
  have hlt := fun g e => (hown.lt g e)
  have ka : Keeps [] w1 (w1.alloc (.cells #[v1] 152)) := (Keeps.refl _ _).alloc _
  have kw : Keeps [] w (w1.alloc (.cells #[v1] 152)) := (H.out.2.2.1.then (Keeps.of_below [] hb1)).then ka
  have hO : Out (w1.alloc (.cells #[v1] 152)) w1.heap.size v1 l :=
    ⟨heap_alloc_new _ _, own_kept (own_base hown (Nat.zero_le _)) ka (by simp), fun e => by have := (hlt _ e).2; omega, HL.out⟩
  have hsz := hb1.size
  have hrep := rok_entry.kept (X' := xs w1.heap.size v1) H.out.1 kw (by simp) (fun b hb => by
    rcases mem_xs.1 hb with rfl | e
    · exact .inr (by omega)
    · exact .inr (by have := (hlt b e).1; omega))
  have hG : (w1.alloc (.cells #[v1] 152)).heap[w.heap.size]? = some (.cells cs.toArray 67 (0, 0)) := (ka.block _ (by omega) (by simp)).trans ((hb1.block w.heap.size (by omega)).trans H.out.2.2.2.1)
  have hcall := entry_wr w1.heap.size v1 l cs d _ hO hrep H.out.2.1
  have HG := Lib.hid (And.intro hG (And.intro kw (And.intro hsz (And.intro hz0 hlt))))
  clear hG kw hsz hz0 hlt ka hO hrep hown hb1
  subst hv1
  go_wp2_with (refine wpList_load_row rfl 67 _ rfl w.heap.size rfl 67 cs.toArray (0, 0) _ HG.out.1 Tryz.underlying67 rfl H.out.2.2.2.2.1 ?_)
  refine hcall.mono ?_
  rintro e w2 ⟨rfl, v2, O2, S2⟩
  have c0 := O2.c0
  have HO := Lib.hid (And.intro O2 S2)
  clear O2 S2 hcall
  go_wp2_with fail
  go_ret
  obtain ⟨_, kw, hsz, hz0, hlt⟩ := HG.out
  refine ⟨v2, rfl, ownsRow_up HO.out.1.2.1 fun g e => ?_, kw.below (by simp) (Nat.le_refl _) |>.trans (HO.out.2.1.below (fun b hb => ?_) (by simp; omega))⟩
  · rcases HO.out.2.2 g e with e | e
    · have := (hlt g e).1; omega
    · simp at e; omega
  · rcases mem_xs.1 hb with rfl | e
    · omega
    · have := (hlt b e).1; omega
set_option maxRecDepth 100000 in
set_option maxHeartbeats 2000000 in
theorem putEntry_any (A : Option Addr) (n c : Nat) (l : List Nat) (cs : List Value) (d : Entry) (w : World) (hb : Bs w w.heap.size A n l) (hf : Fit A n c) (hr : rEntry w [] cs d) (hm : l.length + (cEntry.enc d).length ≤ far) :
    Calls Tryz.prog 26 #[.slice A n c, .agg cs.toArray] w (Own (l ++ cEntry.enc d) w) := by
  have hcs : cs.toArray.size = 21 := by simp [rok_entry.size hr]
  have hi1 : (Tryz.prog.info? 67).map (·.size) = some cs.toArray.size := by rw [hcs]; kernel_rfl
  have k0 : Keeps [] w (w.alloc (.cells cs.toArray 67)) := (Keeps.refl _ _).alloc _
  have hput := putTEntry_any A n c l cs d (w.alloc (.cells cs.toArray 67)) (hb.on ((Below.refl _ _).alloc (Nat.le_refl _) _)) hf (rok_entry.kept (X' := []) hr k0 (by simp) (by simp)) hm
  have g0 : (w.alloc (.cells cs.toArray 67)).heap[w.heap.size]? = some (.cells cs.toArray 67 (0, 0)) := heap_alloc_new _ _
  have H := Lib.hid (And.intro g0 hi1)
  clear g0 hi1 hcs hr hb hm k0
  go_enter Tryz.func26, Tryz.ntmps26
  go_wp2_with (refine wpList_load_row rfl 67 _ rfl w.heap.size rfl 67 cs.toArray (0, 0) _ H.out.1 Tryz.underlying67 rfl H.out.2 ?_)
  refine hput.mono ?_
  rintro e w1 ⟨v1, rfl, hown, hb1⟩
  have HO := Lib.hid (And.intro hown hb1)
  clear hown hb1 hput
  go_wp2_with fail
  go_ret
  exact ⟨v1, rfl, own_base HO.out.1 (by simp), ((Below.refl _ _).alloc (Nat.le_refl _) _).trans (HO.out.2.mono (by simp))⟩
theorem enters_pMeta : ∀ args w, Sem.run Tryz.prog (callFunc 68 args) w = .ok (.enter 68 args) w := fun _ _ => by kernel_rfl
set_option maxRecDepth 100000 in
set_option maxHeartbeats 2000000 in
theorem putTMeta_any (A : Option Addr) (n c : Nat) (l : List Nat) (cs : List Value) (d : Meta) (w : World) (hb : Bs w w.heap.size A n l) (hf : Fit A n c) (hr : rMeta w [] cs d) (hm : l.length + (cMeta.enc d).length ≤ far) :
    Calls Tryz.prog 67 #[.slice A n c, .agg cs.toArray, .func (.func 68) #[] #[]] w (Own (l ++ cMeta.enc d) w) := by
  have en := enters_pMeta
  have hcs : cs.toArray.size = 14 := by simp [rok_meta.size hr]
  have hi1 : (Tryz.prog.info? 80).map (·.size) = some cs.toArray.size := by rw [hcs]; kernel_rfl
  have k0 : Keeps [] w (w.alloc (.cells cs.toArray 80)) := (Keeps.refl _ _).alloc _
  have hcl := cloneO_any A n c w.heap.size l hf (w.alloc (.cells cs.toArray 80)) (k0.bs hb (by simp)) k0.size
  have g0 : (w.alloc (.cells cs.toArray 80)).heap[w.heap.size]? = some (.cells cs.toArray 80 (0, 0)) := heap_alloc_new _ _
  have hw0 : (w.alloc (.cells cs.toArray 80)).heap.size = w.heap.size + 1 := by simp
  have HL := Lib.hid hb.2.1
  have H := Lib.hid (And.intro hr (And.intro hm (And.intro k0 (And.intro g0 (And.intro hi1 hw0)))))
  clear hr hm k0 g0 hi1 hcs hb hf hw0
  go_enter Tryz.func67, Tryz.ntmps67
  go_wp2_with fail
  refine hcl.mono ?_
  rintro e w1 ⟨v1, rfl, hown, hb1⟩
  obtain ⟨A1, n1, c1, hv1⟩ := own_val hown
  have hz0 := H.out.2.2.2.2.2
  have hlt := fun g e => (hown.lt g e)
  have ka : Keeps [] w1 (w1.alloc (.cells #[v1] 152)) := (Keeps.refl _ _).alloc _
  have kw : Keeps [] w (w1.alloc (.cells #[v1] 152)) := (H.out.2.2.1.then (Keeps.of_below [] hb1)).then ka
  have hO : Out (w1.alloc (.cells #[v1] 152)) w1.heap.size v1 l :=
    ⟨heap_alloc_new _ _, own_kept (own_base hown (Nat.zero_le _)) ka (by simp), fun e => by have := (hlt _ e).2; omega, HL.out⟩
  have hsz := hb1.size
  have hrep := rok_meta.kept (X' := xs w1.heap.size v1) H.out.1 kw (by simp) (fun b hb => by
    rcases mem_xs.1 hb with rfl | e
    · exact .inr (by omega)
    · exact .inr (by have := (hlt b e).1; omega))
  have hG : (w1.alloc (.cells #[v1] 152)).heap[w.heap.size]? = some (.cells cs.toArray 80 (0, 0)) := (ka.block _ (by omega) (by simp)).trans ((hb1.block w.heap.size (by omega)).trans H.out.2.2.2.1)
  have hcall := meta_wr w1.heap.size v1 l cs d _ hO hrep H.out.2.1
  have HG := Lib.hid (And.intro hG (And.intro kw (And.intro hsz (And.intro hz0 hlt))))
  clear hG kw hsz hz0 hlt ka hO hrep hown hb1
  subst hv1
  go_wp2_with (refine wpList_load_row rfl 80 _ rfl w.heap.size rfl 80 cs.toArray (0, 0) _ HG.out.1 Tryz.underlying80 rfl H.out.2.2.2.2.1 ?_)
  refine hcall.mono ?_
  rintro e w2 ⟨rfl, v2, O2, S2⟩
  have c0 := O2.c0
  have HO := Lib.hid (And.intro O2 S2)
  clear O2 S2 hcall
  go_wp2_with fail
  go_ret
  obtain ⟨_, kw, hsz, hz0, hlt⟩ := HG.out
  refine ⟨v2, rfl, ownsRow_up HO.out.1.2.1 fun g e => ?_, kw.below (by simp) (Nat.le_refl _) |>.trans (HO.out.2.1.below (fun b hb => ?_) (by simp; omega))⟩
  · rcases HO.out.2.2 g e with e | e
    · have := (hlt g e).1; omega
    · simp at e; omega
  · rcases mem_xs.1 hb with rfl | e
    · omega
    · have := (hlt b e).1; omega
set_option maxRecDepth 100000 in
set_option maxHeartbeats 2000000 in
theorem putMeta_any (A : Option Addr) (n c : Nat) (l : List Nat) (cs : List Value) (d : Meta) (w : World) (hb : Bs w w.heap.size A n l) (hf : Fit A n c) (hr : rMeta w [] cs d) (hm : l.length + (cMeta.enc d).length ≤ far) :
    Calls Tryz.prog 30 #[.slice A n c, .agg cs.toArray] w (Own (l ++ cMeta.enc d) w) := by
  have hcs : cs.toArray.size = 14 := by simp [rok_meta.size hr]
  have hi1 : (Tryz.prog.info? 80).map (·.size) = some cs.toArray.size := by rw [hcs]; kernel_rfl
  have k0 : Keeps [] w (w.alloc (.cells cs.toArray 80)) := (Keeps.refl _ _).alloc _
  have hput := putTMeta_any A n c l cs d (w.alloc (.cells cs.toArray 80)) (hb.on ((Below.refl _ _).alloc (Nat.le_refl _) _)) hf (rok_meta.kept (X' := []) hr k0 (by simp) (by simp)) hm
  have g0 : (w.alloc (.cells cs.toArray 80)).heap[w.heap.size]? = some (.cells cs.toArray 80 (0, 0)) := heap_alloc_new _ _
  have H := Lib.hid (And.intro g0 hi1)
  clear g0 hi1 hcs hr hb hm k0
  go_enter Tryz.func30, Tryz.ntmps30
  go_wp2_with (refine wpList_load_row rfl 80 _ rfl w.heap.size rfl 80 cs.toArray (0, 0) _ H.out.1 Tryz.underlying80 rfl H.out.2 ?_)
  refine hput.mono ?_
  rintro e w1 ⟨v1, rfl, hown, hb1⟩
  have HO := Lib.hid (And.intro hown hb1)
  clear hown hb1 hput
  go_wp2_with fail
  go_ret
  exact ⟨v1, rfl, own_base HO.out.1 (by simp), ((Below.refl _ _).alloc (Nat.le_refl _) _).trans (HO.out.2.mono (by simp))⟩
end Pk
end Go.Proofs.YtjpbinkklhmphaaGreat
