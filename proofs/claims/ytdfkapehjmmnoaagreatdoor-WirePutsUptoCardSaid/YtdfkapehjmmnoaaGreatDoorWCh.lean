/-
  Check, THE PACKAGE'S AND THE DOCUMENT'S: the same number for every message. Conditions: the library's variable holds what the program's text lays; the message's bytes fit into memory.
-/
import Derived.Test.YtdfkapehjmmnoaaGreatDoorWPuts
import Derived.Test.YtdfkapehjmmnoaaGreatDoorWPt
import Derived.Test.YtdfkapehjmmnoaaGreatDoorWV
import Derived.Test.YtdfkapehjmmnoaaGreatDoorWE
set_option linter.unusedSimpArgs false
namespace Go.Proofs.YtdfkapehjmmnoaaGreatDoor
open _root_.Go.Value renaming int → V, slice → O
open _root_.Go.IntKind renaming i64 → J, u64 → U
open Go.RowKit Go.ChangeShapes Go.WideShapes Go.ChangeAt
namespace Pk
open Oc
theorem x_int {w : World} {X : List Nat} {z : Int} (h : inI z) : rInt w X [V J z] z := ⟨rfl, h⟩
theorem x_num {w : World} {X : List Nat} {z : Nat} (h : z < 2 ^ 64) : rNum w X [V U z] z := ⟨rfl, h⟩
theorem z_bytes {w : World} {X : List Nat} : rBytes w X [O none 0 0] [] := ⟨z_list _ _ _ _ _, none, 0, rfl, by simp⟩
theorem msg_mk {w : World} {X : List Nat} {c1 c2 c3 c4 c5 c6 c7 c8 c9 c10 c11 c12 c13 c14 c15 c16 c17 c18 c19 c20 c21 c22 c23 c24 c25 c26 c27 : Value} {kd fr tn : Int} {tm ix lt cm cx : Nat} {ok fo : Bool} {en : List Entry} {cf : Conf} {hd : Header} {da : List Nat} {cl sq : Nat} {op : Int} {ky : List Nat} {co : Int} {nm : List (List Nat)}
    (h1 : rInt w X [c1] kd) (h2 : rInt w X [c2] fr) (h3 : rInt w X [c3] tn) (h4 : rNum w X [c4] tm) (h5 : rNum w X [c5] ix) (h6 : rNum w X [c6] lt) (h7 : rNum w X [c7] cm) (h8 : rNum w X [c8] cx) (h9 : rFlag w X [c9] ok) (h10 : rFlag w X [c10] fo) (h11 : rEntries w X [c11] en) (h12 : rConf w X [c12, c13] cf) (h13 : rHeader w X [c14, c15, c16, c17, c18, c19, c20] hd) (h14 : rBytes w X [c21] da) (h15 : rNum w X [c22] cl) (h16 : rNum w X [c23] sq) (h17 : rInt w X [c24] op) (h18 : rText w X [c25] ky) (h19 : rInt w X [c26] co) (h20 : rNames w X [c27] nm) :
    rMsg w X [c1, c2, c3, c4, c5, c6, c7, c8, c9, c10, c11, c12, c13, c14, c15, c16, c17, c18, c19, c20, c21, c22, c23, c24, c25, c26, c27] (kd, fr, tn, tm, ix, lt, cm, cx, ok, fo, en, cf, hd, da, cl, sq, op, ky, co, nm) :=
  ⟨[_], _, rfl, h1, [_], _, rfl, h2, [_], _, rfl, h3, [_], _, rfl, h4, [_], _, rfl, h5, [_], _, rfl, h6, [_], _, rfl, h7, [_], _, rfl, h8, [_], _, rfl, h9, [_], _, rfl, h10, [_], _, rfl, h11, [_, _], _, rfl, h12, [_, _, _, _, _, _, _], _, rfl, h13, [_], _, rfl, h14, [_], _, rfl, h15, [_], _, rfl, h16, [_], _, rfl, h17, [_], _, rfl, h18, [_], [_], rfl, h19, h20⟩
theorem msg_at {w : World} {X : List Nat} {kd : Int} (fr tn : Int) (tm ix lt cm cx : Nat) (ok fo : Bool) (en : List Entry) (vo le : List Int) (hv : Nat) (hi : Int) (he : Nat) (hk hn hs : Int) (hu : Nat) (da : List Nat) (cl sq : Nat) (op : Int) (ky : List Nat) (co : Int) (nm : List (List Nat)) (Ae : Option Addr) (ce : Nat) (Av : Option Addr) (cv : Nat) (Al : Option Addr) (cl' : Nat) (Ad : Option Addr) (cd : Nat) (An : Option Addr) (cn : Nat) (h : rMsg w X [V J kd, V J fr, V J tn, V U tm, V U ix, V U lt, V U cm, V U cx, .bool ok, .bool fo, .slice Ae en.length ce, .slice Av vo.length cv, .slice Al le.length cl', V U hv, V J hi, V U he, V J hk, V J hn, V J hs, V .u32 hu, .slice Ad da.length cd, V U cl, V U sq, V J op, .string (bstr ky), V J co, .slice An nm.length cn] (kd, fr, tn, tm, ix, lt, cm, cx, ok, fo, en, (vo, le), ((hv, hi, he), hk, hn, hs, hu), da, cl, sq, op, ky, co, nm)) : MsgAt w X Ae ce Av cv Al cl' Ad cd An cn kd fr tn tm ix lt cm cx ok fo en vo le hv hi he hk hn hs hu da cl sq op ky co nm := by
  obtain ⟨_, _, _, _, _, _, _, _, _, _, e, h⟩ := msg_shape h
  simp only [List.cons.injEq, Value.slice.injEq, true_and, and_true] at e
  obtain ⟨⟨rfl, rfl⟩, ⟨rfl, rfl⟩, ⟨rfl, rfl⟩, ⟨rfl, rfl⟩, rfl, rfl⟩ := e
  exact h
theorem bstr_empty {ky : List Nat} : bstr ky = ⟨#[]⟩ ↔ ky = [] := by
  constructor
  · intro h
    have := bstr_size ky
    rw [h] at this
    exact List.eq_nil_of_length_eq_zero this.symm
  · rintro rfl
    rfl
set_option maxRecDepth 100000 in
set_option maxHeartbeats 2000000 in
theorem rCheck_of (A X : Array Value) (b : Bool) (w : World) (hA : A.size = 27) (hX : X.size = 27) (h1 : X.all (·.oneCell') = true) (hp : ∀ w1, Calls Tryz.prog 31 #[.agg A] w1 fun e w' => e = .returned (.tuple #[.agg X, .bool true]) ∧ Below w1.heap.size w1 w')
    (hs : ∀ w1, Below w.heap.size w w1 → Calls Tryz.prog 22 #[.agg X, .agg A] w1 fun e w' => e = .returned (.bool b) ∧ Below w1.heap.size w1 w') :
    Calls Tryz.prog 15 #[.agg A] w fun e w' => e = .returned (V J ((if b then 0 else 2 : Nat) : Nat)) ∧ Below w.heap.size w w' := by
  have hiA : (Tryz.prog.info? 47).map (·.size) = some A.size := by rw [hA]; kernel_rfl
  have hiX : (Tryz.prog.info? 47).map (·.size) = some X.size := by rw [hX]; kernel_rfl
  have g0 : (w.alloc (.cells A 47)).heap[w.heap.size]? = some (.cells A 47 (0, 0)) := heap_alloc_new _ _
  have hb0 : Below w.heap.size w (w.alloc (.cells A 47)) := (Below.refl _ _).alloc (Nat.le_refl _) _
  have hp1 := hp (w.alloc (.cells A 47))
  have H := Lib.hid (And.intro g0 (And.intro hb0 (And.intro hiA hiX)))
  have HX := Lib.hid (And.intro hX h1)
  have hz : (w.alloc (.cells A 47)).heap.size = w.heap.size + 1 := by simp
  have HZ := Lib.hid hz
  clear g0 hb0 hiA hiX hX h1 hp hA hz
  go_enter Tryz.func15, Tryz.ntmps15
  go_wp2_with (refine wpList_load_rowg 47 _ rfl w.heap.size rfl (by kernel_rfl) 47 A (0, 0) _ H.out.1 Tryz.underlying47 rfl H.out.2.2.1 ?_)
  refine hp1.mono ?_
  rintro e w1 ⟨rfl, hb1⟩
  have g1 : w1.heap[w.heap.size]? = some (.cells A 47 (0, 0)) := (hb1.block _ (by have := HZ.out; omega)).trans H.out.1
  have hbb1 := H.out.2.1.trans (hb1.mono H.out.2.1.size)
  have hzz : (#[V J 0, V J 0, V J 0, V U 0, V U 0, V U 0, V U 0, V U 0, .bool false, .bool false, O none 0 0, O none 0 0, O none 0 0, V U 0, V J 0, V U 0, V J 0, V J 0, V J 0, V .u32 0, O none 0 0, V U 0, V U 0, V J 0, .string ⟨#[]⟩, V J 0, O none 0 0] : Array Value).size = X.size := HX.out.1.symm
  have lt1 : w.heap.size < w1.heap.size := (Array.getElem?_eq_some_iff.1 g1).1
  have g2 : ((w1.alloc (.cells #[V J 0, V J 0, V J 0, V U 0, V U 0, V U 0, V U 0, V U 0, .bool false, .bool false, O none 0 0, O none 0 0, O none 0 0, V U 0, V J 0, V U 0, V J 0, V J 0, V J 0, V .u32 0, O none 0 0, V U 0, V U 0, V J 0, .string ⟨#[]⟩, V J 0, O none 0 0] 47)).setRow w1.heap.size X).heap[w1.heap.size]? = some (.cells X 47 (0, 0)) := setRow_heap _ _ _ _ _ _ (heap_alloc_new _ _)
  have kz : Keeps [] w1 ((w1.alloc (.cells #[V J 0, V J 0, V J 0, V U 0, V U 0, V U 0, V U 0, V U 0, .bool false, .bool false, O none 0 0, O none 0 0, O none 0 0, V U 0, V J 0, V U 0, V J 0, V J 0, V J 0, V .u32 0, O none 0 0, V U 0, V U 0, V J 0, .string ⟨#[]⟩, V J 0, O none 0 0] 47)).setRow w1.heap.size X) := ((Keeps.refl [] w1).alloc _).setRow (.inr (Nat.le_refl _)) _
  have g3 := (kz.block w.heap.size lt1 (by simp)).trans g1
  have hbb2 := hbb1.trans ((kz.below (B := w1.heap.size) (by simp) (Nat.le_refl _)).mono hbb1.size)
  have hs2 := hs _ hbb2
  have H2 := Lib.hid (And.intro g2 (And.intro g3 (And.intro hbb2 hzz)))
  clear g1 hbb1 lt1 g2 kz g3 hbb2 hb1 hp1 hs hzz
  go_wp2_with (with_reducible show wpList _ _ _ _ _ _; first
    | refine wpList_store_row rfl 47 _ _ rfl w1.heap.size X rfl rfl 47 #[V J 0, V J 0, V J 0, V U 0, V U 0, V U 0, V U 0, V U 0, .bool false, .bool false, O none 0 0, O none 0 0, O none 0 0, V U 0, V J 0, V U 0, V J 0, V J 0, V J 0, V .u32 0, O none 0 0, V U 0, V U 0, V J 0, .string ⟨#[]⟩, V J 0, O none 0 0] (heap_alloc_new _ _) H.out.2.2.2 H2.out.2.2.2 HX.out.2 ?_
    | refine wpList_load_rowg 47 _ rfl w1.heap.size rfl (by kernel_rfl) 47 X (0, 0) _ H2.out.1 Tryz.underlying47 rfl H.out.2.2.2 ?_
    | refine wpList_load_rowg 47 _ rfl w.heap.size rfl (by kernel_rfl) 47 A (0, 0) _ H2.out.2.1 Tryz.underlying47 rfl H.out.2.2.1 ?_)
  refine hs2.mono ?_
  rintro e w3 ⟨rfl, hb3⟩
  have hbb3 := H2.out.2.2.1.trans (hb3.mono H2.out.2.2.1.size)
  have HF := Lib.hid hbb3
  clear hb3 hbb3 hs2
  cases b with
  | true =>
    go_wp2_with fail
    go_ret
    exact ⟨rfl, HF.out⟩
  | false =>
    go_wp2_with fail
    go_ret
    exact ⟨rfl, HF.out⟩
theorem len_msg (kd fr tn : Int) (tm ix lt cm cx : Nat) (ok fo : Bool) (en : List Entry) (cf : Conf) (hd : Header) (da : List Nat) (cl sq : Nat) (op : Int) (ky : List Nat) (co : Int) (nm : List (List Nat)) : (cMsg.enc (kd, fr, tn, tm, ix, lt, cm, cx, ok, fo, en, cf, hd, da, cl, sq, op, ky, co, nm)).length =
    (cInt.enc kd).length + ((cInt.enc fr).length + ((cInt.enc tn).length + ((cNum.enc tm).length + ((cNum.enc ix).length + ((cNum.enc lt).length + ((cNum.enc cm).length + ((cNum.enc cx).length + ((cFlag.enc ok).length + ((cFlag.enc fo).length + ((cEntries.enc en).length + ((cConf.enc cf).length + ((cHeader.enc hd).length + ((cText.enc da).length + ((cNum.enc cl).length + ((cNum.enc sq).length + ((cInt.enc op).length + ((cText.enc ky).length + ((cInt.enc co).length + (cNames.enc nm).length)))))))))))))))))) := by
  show (cInt.enc kd ++ (cInt.enc fr ++ (cInt.enc tn ++ (cNum.enc tm ++ (cNum.enc ix ++ (cNum.enc lt ++ (cNum.enc cm ++ (cNum.enc cx ++ (cFlag.enc ok ++ (cFlag.enc fo ++ (cEntries.enc en ++ (cConf.enc cf ++ (cHeader.enc hd ++ (cText.enc da ++ (cNum.enc cl ++ (cNum.enc sq ++ (cInt.enc op ++ (cText.enc ky ++ (cInt.enc co ++ cNames.enc nm))))))))))))))))))).length = _
  simp only [List.length_append]
theorem zle {x n a : Nat} (h : x = n) (hn : n ≤ 7) : x ≤ a + 7 := by omega
theorem s2 {a b A B n : Nat} (h : b ≤ a + 7) (k : B ≤ A + n) : b + B ≤ (a + A) + (n + 7) := by omega
theorem sum20 {a1 a2 a3 a4 a5 a6 a7 a8 a9 a10 a11 a12 a13 a14 a15 a16 a17 a18 a19 a20 b1 b2 b3 b4 b5 b6 b7 b8 b9 b10 b11 b12 b13 b14 b15 b16 b17 b18 b19 b20 : Nat} (h1 : b1 ≤ a1 + 7) (h2 : b2 ≤ a2 + 7) (h3 : b3 ≤ a3 + 7) (h4 : b4 ≤ a4 + 7) (h5 : b5 ≤ a5 + 7) (h6 : b6 ≤ a6 + 7) (h7 : b7 ≤ a7 + 7) (h8 : b8 ≤ a8 + 7) (h9 : b9 ≤ a9 + 7) (h10 : b10 ≤ a10 + 7) (h11 : b11 ≤ a11 + 7) (h12 : b12 ≤ a12 + 7) (h13 : b13 ≤ a13 + 7) (h14 : b14 ≤ a14 + 7) (h15 : b15 ≤ a15 + 7) (h16 : b16 ≤ a16 + 7) (h17 : b17 ≤ a17 + 7) (h18 : b18 ≤ a18 + 7) (h19 : b19 ≤ a19 + 7) (h20 : b20 ≤ a20 + 7) :
    b1 + (b2 + (b3 + (b4 + (b5 + (b6 + (b7 + (b8 + (b9 + (b10 + (b11 + (b12 + (b13 + (b14 + (b15 + (b16 + (b17 + (b18 + (b19 + b20)))))))))))))))))) ≤ a1 + (a2 + (a3 + (a4 + (a5 + (a6 + (a7 + (a8 + (a9 + (a10 + (a11 + (a12 + (a13 + (a14 + (a15 + (a16 + (a17 + (a18 + (a19 + a20)))))))))))))))))) + 140 := (s2 h1 (s2 h2 (s2 h3 (s2 h4 (s2 h5 (s2 h6 (s2 h7 (s2 h8 (s2 h9 (s2 h10 (s2 h11 (s2 h12 (s2 h13 (s2 h14 (s2 h15 (s2 h16 (s2 h17 (s2 h18 (s2 h19 h20)))))))))))))))))))
theorem zero_lens : (cNum.enc 0).length = 1 ∧ (cInt.enc 0).length = 1 ∧ (cFlag.enc false).length = 1 ∧ (cEntries.enc []).length = 1 ∧ (cConf.enc ([], [])).length = 2 ∧ (cHeader.enc ((0, 0, 0), 0, 0, 0, 0)).length = 7 ∧ (cText.enc []).length = 1 ∧ (cNames.enc []).length = 1 := by decide +kernel
theorem k7 {x : Nat} : x ≤ x + 7 := Nat.le_add_right _ _
theorem qn {a : Nat} : (cNum.enc 0).length ≤ a + 7 := zle zero_lens.1 (by decide)
theorem qi {a : Nat} : (cInt.enc 0).length ≤ a + 7 := zle zero_lens.2.1 (by decide)
theorem qf {a : Nat} : (cFlag.enc false).length ≤ a + 7 := zle zero_lens.2.2.1 (by decide)
theorem qe {a : Nat} : (cEntries.enc []).length ≤ a + 7 := zle zero_lens.2.2.2.1 (by decide)
theorem qc {a : Nat} : (cConf.enc ([], [])).length ≤ a + 7 := zle zero_lens.2.2.2.2.1 (by decide)
theorem qh {a : Nat} : (cHeader.enc ((0, 0, 0), 0, 0, 0, 0)).length ≤ a + 7 := zle zero_lens.2.2.2.2.2.1 (by decide)
theorem qt {a : Nat} : (cText.enc []).length ≤ a + 7 := zle zero_lens.2.2.2.2.2.2.1 (by decide)
theorem qm {a : Nat} : (cNames.enc []).length ≤ a + 7 := zle zero_lens.2.2.2.2.2.2.2 (by decide)
theorem zc {w : World} {X : List Nat} : rConf w X [O none 0 0, O none 0 0] ([], []) := z_pair (z_list _ _ _ _ _) (z_list _ _ _ _ _)
theorem zh {w : World} {X : List Nat} : rHeader w X [V U 0, V J 0, V U 0, V J 0, V J 0, V J 0, V .u32 0] ((0, 0, 0), 0, 0, 0, 0) := z_pair (z_pair (z_num _ _) (z_pair (z_int _ _) (z_num _ _))) (z_pair (z_int _ _) (z_pair (z_int _ _) (z_pair (z_int _ _) (z_n32 _ _))))
set_option maxRecDepth 100000 in
theorem both_of (k : Int) (mp : Nat) (fr tn : Int) (tm ix lt cm cx : Nat) (ok fo : Bool) (en : List Entry) (vo le : List Int) (hv : Nat) (hi : Int) (he : Nat) (hk hn hs : Int) (hu : Nat) (da : List Nat) (cl sq : Nat) (op : Int) (ky : List Nat) (co : Int) (nm : List (List Nat)) (Ae : Option Addr) (ce : Nat) (Av : Option Addr) (cv : Nat) (Al : Option Addr) (cl' : Nat) (Ad : Option Addr) (cd : Nat) (An : Option Addr) (cn : Nat) (i : Nat) (hf : ∀ W, (Instr.findKey 33 (V J k) eS.toList).run Tryz.prog W = .ok (some (i, V .u32 mp)) W) (xs : List Value) (d : Msg)
    (hp : ∀ w, Calls Tryz.prog 31 #[.agg #[V J k, V J fr, V J tn, V U tm, V U ix, V U lt, V U cm, V U cx, .bool ok, .bool fo, .slice Ae en.length ce, .slice Av vo.length cv, .slice Al le.length cl', V U hv, V J hi, V U he, V J hk, V J hn, V J hs, V .u32 hu, .slice Ad da.length cd, V U cl, V U sq, V J op, .string (bstr ky), V J co, .slice An nm.length cn]] w fun e w' => e = .returned (.tuple #[.agg xs.toArray, .bool true]) ∧ Below w.heap.size w w') (hr : NoRest mp tm ix lt cm cx ok fo en.length vo.length le.length hv hi he hk hn hs hu da.length cl sq op (bstr ky) co nm.length ↔ d = (k, fr, tn, tm, ix, lt, cm, cx, ok, fo, en, (vo, le), ((hv, hi, he), hk, hn, hs, hu), da, cl, sq, op, ky, co, nm)) (hX : xs.length = 27) (h1 : xs.toArray.all (·.oneCell') = true)
    (hx : ∀ w, MsgAt w [] Ae ce Av cv Al cl' Ad cd An cn k fr tn tm ix lt cm cx ok fo en vo le hv hi he hk hn hs hu da cl sq op ky co nm → rMsg w [] xs d) (hln : (cMsg.enc d).length ≤ (cMsg.enc (k, fr, tn, tm, ix, lt, cm, cx, ok, fo, en, (vo, le), ((hv, hi, he), hk, hn, hs, hu), da, cl, sq, op, ky, co, nm)).length + 140) (hd : dataLen d ≤ da.length) : BothOk #[V J k, V J fr, V J tn, V U tm, V U ix, V U lt, V U cm, V U cx, .bool ok, .bool fo, .slice Ae en.length ce, .slice Av vo.length cv, .slice Al le.length cl', V U hv, V J hi, V U he, V J hk, V J hn, V J hs, V .u32 hu, .slice Ad da.length cd, V U cl, V U sq, V J op, .string (bstr ky), V J co, .slice An nm.length cn] (k, fr, tn, tm, ix, lt, cm, cx, ok, fo, en, (vo, le), ((hv, hi, he), hk, hn, hs, hu), da, cl, sq, op, ky, co, nm) := by
  have hlk := fun (W : World) (b : Nat) (g : W.heap[b]? = some (.map eS 19)) => lookup_at k _ (V .u32 mp) true hf (.inr (.inl ⟨⟨i, rfl⟩, rfl⟩)) W b g
  refine ⟨if decide (cMsg.enc d = cMsg.enc (k, fr, tn, tm, ix, lt, cm, cx, ok, fo, en, (vo, le), ((hv, hi, he), hk, hn, hs, hu), da, cl, sq, op, ky, co, nm)) then 0 else 2, fun w hT h => ?_, fun w h hl hdl => ?_⟩
  · have hq := enc_eq (ty_msg (hx w (msg_at fr tn tm ix lt cm cx ok fo en vo le hv hi he hk hn hs hu da cl sq op ky co nm Ae ce Av cv Al cl' Ad cd An cn h))) (ty_msg h)
    refine Check_of [V J k, V J fr, V J tn, V U tm, V U ix, V U lt, V U cm, V U cx, .bool ok, .bool fo, .slice Ae en.length ce, .slice Av vo.length cv, .slice Al le.length cl', V U hv, V J hi, V U he, V J hk, V J hn, V J hs, V .u32 hu, .slice Ad da.length cd, V U cl, V U sq, V J op, .string (bstr ky), V J co, .slice An nm.length cn] _ w hT rfl fun w1 => ?_
    by_cases hz : cMsg.enc d = cMsg.enc (k, fr, tn, tm, ix, lt, cm, cx, ok, fo, en, (vo, le), ((hv, hi, he), hk, hn, hs, hu), da, cl, sq, op, ky, co, nm)
    · rw [decide_eq_true hz]
      exact check_yes k fr tn tm ix lt cm cx ok fo Ae en.length ce Av vo.length cv Al le.length cl' hv hi he hk hn hs hu Ad da.length cd cl sq op (bstr ky) co An nm.length cn w1 mp hlk (hr.2 (hq.1 hz))
    · rw [decide_eq_false hz]
      exact check_rest k fr tn tm ix lt cm cx ok fo Ae en.length ce Av vo.length cv Al le.length cl' hv hi he hk hn hs hu Ad da.length cd cl sq op (bstr ky) co An nm.length cn w1 mp hlk (fun e => hz (hq.2 (hr.1 e)))
  · have hy := hx w (msg_at fr tn tm ix lt cm cx ok fo en vo le hv hi he hk hn hs hu da cl sq op ky co nm Ae ce Av cv Al cl' Ad cd An cn h)
    refine rCheck_of _ xs.toArray _ w rfl (by simpa using hX) h1 hp fun w1 hb => ?_
    exact rSame_any xs [V J k, V J fr, V J tn, V U tm, V U ix, V U lt, V U cm, V U cx, .bool ok, .bool fo, .slice Ae en.length ce, .slice Av vo.length cv, .slice Al le.length cl', V U hv, V J hi, V U he, V J hk, V J hn, V J hs, V .u32 hu, .slice Ad da.length cd, V U cl, V U sq, V J op, .string (bstr ky), V J co, .slice An nm.length cn] d (k, fr, tn, tm, ix, lt, cm, cx, ok, fo, en, (vo, le), ((hv, hi, he), hk, hn, hs, hu), da, cl, sq, op, ky, co, nm) _ w1 (rok_msg.kept (X' := []) hy (Keeps.of_below [] hb) (by simp) (by simp)) (rok_msg.kept (X' := []) h (Keeps.of_below [] hb) (by simp) (by simp)) (Nat.le_trans hln (Nat.le_trans (Nat.add_le_add_right hl 140) (by decide))) (Nat.le_trans hl (by decide)) (Nat.le_trans hd (Nat.le_trans hdl (by decide))) (Nat.le_trans hdl (by decide)) rfl
section
variable (fr tn : Int) (tm ix lt cm cx : Nat) (ok fo : Bool) (en : List Entry) (vo le : List Int) (hv : Nat) (hi : Int) (he : Nat) (hk hn hs : Int) (hu : Nat) (da : List Nat) (cl sq : Nat) (op : Int) (ky : List Nat) (co : Int) (nm : List (List Nat))
theorem rest_1 : NoRest 71 tm ix lt cm cx ok fo en.length vo.length le.length hv hi he hk hn hs hu da.length cl sq op (bstr ky) co nm.length ↔ ((1, fr, tn, tm, ix, lt, 0, 0, false, fo, [], ([], []), ((0, 0, 0), 0, 0, 0, 0), [], 0, 0, 0, [], 0, []) : Msg) = (1, fr, tn, tm, ix, lt, cm, cx, ok, fo, en, (vo, le), ((hv, hi, he), hk, hn, hs, hu), da, cl, sq, op, ky, co, nm) := by
  have e : NoRest 71 tm ix lt cm cx ok fo en.length vo.length le.length hv hi he hk hn hs hu da.length cl sq op (bstr ky) co nm.length = ((0 : Int) = (0 : Int) ∧ (0 : Int) = (0 : Int) ∧ (0 : Int) = (0 : Int) ∧ (cm : Int) = (0 : Int) ∧ (cx : Int) = (0 : Int) ∧ ok = false ∧ false = false ∧ (en.length : Int) = (0 : Int) ∧ (vo.length : Int) = (0 : Int) ∧ (le.length : Int) = (0 : Int) ∧ (hv : Int) = (0 : Int) ∧ hi = (0 : Int) ∧ (he : Int) = (0 : Int) ∧ hk = (0 : Int) ∧ hn = (0 : Int) ∧ hs = (0 : Int) ∧ (hu : Int) = (0 : Int) ∧ (da.length : Int) = (0 : Int) ∧ (cl : Int) = (0 : Int) ∧ (sq : Int) = (0 : Int) ∧ op = (0 : Int) ∧ bstr ky = (⟨#[]⟩ : ByteArray) ∧ co = (0 : Int) ∧ (nm.length : Int) = (0 : Int)) := by kernel_rfl
  rw [e]
  simp only [Prod.mk.injEq, true_and, and_true, bstr_empty, Int.natCast_eq_zero, List.length_eq_zero_iff, eq_comm (a := ([] : List Nat)), eq_comm (a := ([] : List Entry)), eq_comm (a := ([] : List Int)), eq_comm (a := ([] : List (List Nat))), eq_comm (a := (0 : Nat)), eq_comm (a := (0 : Int)), eq_comm (a := false)]
  first
    | done
    | (constructor <;> intro h <;> simp_all)
theorem rest_2 : NoRest 33 tm ix lt cm cx ok fo en.length vo.length le.length hv hi he hk hn hs hu da.length cl sq op (bstr ky) co nm.length ↔ ((2, fr, tn, tm, 0, 0, 0, 0, ok, false, [], ([], []), ((0, 0, 0), 0, 0, 0, 0), [], 0, 0, 0, [], 0, []) : Msg) = (2, fr, tn, tm, ix, lt, cm, cx, ok, fo, en, (vo, le), ((hv, hi, he), hk, hn, hs, hu), da, cl, sq, op, ky, co, nm) := by
  have e : NoRest 33 tm ix lt cm cx ok fo en.length vo.length le.length hv hi he hk hn hs hu da.length cl sq op (bstr ky) co nm.length = ((0 : Int) = (0 : Int) ∧ (ix : Int) = (0 : Int) ∧ (lt : Int) = (0 : Int) ∧ (cm : Int) = (0 : Int) ∧ (cx : Int) = (0 : Int) ∧ false = false ∧ fo = false ∧ (en.length : Int) = (0 : Int) ∧ (vo.length : Int) = (0 : Int) ∧ (le.length : Int) = (0 : Int) ∧ (hv : Int) = (0 : Int) ∧ hi = (0 : Int) ∧ (he : Int) = (0 : Int) ∧ hk = (0 : Int) ∧ hn = (0 : Int) ∧ hs = (0 : Int) ∧ (hu : Int) = (0 : Int) ∧ (da.length : Int) = (0 : Int) ∧ (cl : Int) = (0 : Int) ∧ (sq : Int) = (0 : Int) ∧ op = (0 : Int) ∧ bstr ky = (⟨#[]⟩ : ByteArray) ∧ co = (0 : Int) ∧ (nm.length : Int) = (0 : Int)) := by kernel_rfl
  rw [e]
  simp only [Prod.mk.injEq, true_and, and_true, bstr_empty, Int.natCast_eq_zero, List.length_eq_zero_iff, eq_comm (a := ([] : List Nat)), eq_comm (a := ([] : List Entry)), eq_comm (a := ([] : List Int)), eq_comm (a := ([] : List (List Nat))), eq_comm (a := (0 : Nat)), eq_comm (a := (0 : Int)), eq_comm (a := false)]
  first
    | done
    | (constructor <;> intro h <;> simp_all)
theorem rest_3 : NoRest 71 tm ix lt cm cx ok fo en.length vo.length le.length hv hi he hk hn hs hu da.length cl sq op (bstr ky) co nm.length ↔ ((3, fr, tn, tm, ix, lt, 0, 0, false, fo, [], ([], []), ((0, 0, 0), 0, 0, 0, 0), [], 0, 0, 0, [], 0, []) : Msg) = (3, fr, tn, tm, ix, lt, cm, cx, ok, fo, en, (vo, le), ((hv, hi, he), hk, hn, hs, hu), da, cl, sq, op, ky, co, nm) := by
  have e : NoRest 71 tm ix lt cm cx ok fo en.length vo.length le.length hv hi he hk hn hs hu da.length cl sq op (bstr ky) co nm.length = ((0 : Int) = (0 : Int) ∧ (0 : Int) = (0 : Int) ∧ (0 : Int) = (0 : Int) ∧ (cm : Int) = (0 : Int) ∧ (cx : Int) = (0 : Int) ∧ ok = false ∧ false = false ∧ (en.length : Int) = (0 : Int) ∧ (vo.length : Int) = (0 : Int) ∧ (le.length : Int) = (0 : Int) ∧ (hv : Int) = (0 : Int) ∧ hi = (0 : Int) ∧ (he : Int) = (0 : Int) ∧ hk = (0 : Int) ∧ hn = (0 : Int) ∧ hs = (0 : Int) ∧ (hu : Int) = (0 : Int) ∧ (da.length : Int) = (0 : Int) ∧ (cl : Int) = (0 : Int) ∧ (sq : Int) = (0 : Int) ∧ op = (0 : Int) ∧ bstr ky = (⟨#[]⟩ : ByteArray) ∧ co = (0 : Int) ∧ (nm.length : Int) = (0 : Int)) := by kernel_rfl
  rw [e]
  simp only [Prod.mk.injEq, true_and, and_true, bstr_empty, Int.natCast_eq_zero, List.length_eq_zero_iff, eq_comm (a := ([] : List Nat)), eq_comm (a := ([] : List Entry)), eq_comm (a := ([] : List Int)), eq_comm (a := ([] : List (List Nat))), eq_comm (a := (0 : Nat)), eq_comm (a := (0 : Int)), eq_comm (a := false)]
  first
    | done
    | (constructor <;> intro h <;> simp_all)
theorem rest_4 : NoRest 33 tm ix lt cm cx ok fo en.length vo.length le.length hv hi he hk hn hs hu da.length cl sq op (bstr ky) co nm.length ↔ ((4, fr, tn, tm, 0, 0, 0, 0, ok, false, [], ([], []), ((0, 0, 0), 0, 0, 0, 0), [], 0, 0, 0, [], 0, []) : Msg) = (4, fr, tn, tm, ix, lt, cm, cx, ok, fo, en, (vo, le), ((hv, hi, he), hk, hn, hs, hu), da, cl, sq, op, ky, co, nm) := by
  have e : NoRest 33 tm ix lt cm cx ok fo en.length vo.length le.length hv hi he hk hn hs hu da.length cl sq op (bstr ky) co nm.length = ((0 : Int) = (0 : Int) ∧ (ix : Int) = (0 : Int) ∧ (lt : Int) = (0 : Int) ∧ (cm : Int) = (0 : Int) ∧ (cx : Int) = (0 : Int) ∧ false = false ∧ fo = false ∧ (en.length : Int) = (0 : Int) ∧ (vo.length : Int) = (0 : Int) ∧ (le.length : Int) = (0 : Int) ∧ (hv : Int) = (0 : Int) ∧ hi = (0 : Int) ∧ (he : Int) = (0 : Int) ∧ hk = (0 : Int) ∧ hn = (0 : Int) ∧ hs = (0 : Int) ∧ (hu : Int) = (0 : Int) ∧ (da.length : Int) = (0 : Int) ∧ (cl : Int) = (0 : Int) ∧ (sq : Int) = (0 : Int) ∧ op = (0 : Int) ∧ bstr ky = (⟨#[]⟩ : ByteArray) ∧ co = (0 : Int) ∧ (nm.length : Int) = (0 : Int)) := by kernel_rfl
  rw [e]
  simp only [Prod.mk.injEq, true_and, and_true, bstr_empty, Int.natCast_eq_zero, List.length_eq_zero_iff, eq_comm (a := ([] : List Nat)), eq_comm (a := ([] : List Entry)), eq_comm (a := ([] : List Int)), eq_comm (a := ([] : List (List Nat))), eq_comm (a := (0 : Nat)), eq_comm (a := (0 : Int)), eq_comm (a := false)]
  first
    | done
    | (constructor <;> intro h <;> simp_all)
theorem rest_5 : NoRest 159 tm ix lt cm cx ok fo en.length vo.length le.length hv hi he hk hn hs hu da.length cl sq op (bstr ky) co nm.length ↔ ((5, fr, tn, tm, ix, lt, cm, cx, false, false, en, ([], []), ((0, 0, 0), 0, 0, 0, 0), [], 0, 0, 0, [], 0, []) : Msg) = (5, fr, tn, tm, ix, lt, cm, cx, ok, fo, en, (vo, le), ((hv, hi, he), hk, hn, hs, hu), da, cl, sq, op, ky, co, nm) := by
  have e : NoRest 159 tm ix lt cm cx ok fo en.length vo.length le.length hv hi he hk hn hs hu da.length cl sq op (bstr ky) co nm.length = ((0 : Int) = (0 : Int) ∧ (0 : Int) = (0 : Int) ∧ (0 : Int) = (0 : Int) ∧ (0 : Int) = (0 : Int) ∧ (0 : Int) = (0 : Int) ∧ ok = false ∧ fo = false ∧ (0 : Int) = (0 : Int) ∧ (vo.length : Int) = (0 : Int) ∧ (le.length : Int) = (0 : Int) ∧ (hv : Int) = (0 : Int) ∧ hi = (0 : Int) ∧ (he : Int) = (0 : Int) ∧ hk = (0 : Int) ∧ hn = (0 : Int) ∧ hs = (0 : Int) ∧ (hu : Int) = (0 : Int) ∧ (da.length : Int) = (0 : Int) ∧ (cl : Int) = (0 : Int) ∧ (sq : Int) = (0 : Int) ∧ op = (0 : Int) ∧ bstr ky = (⟨#[]⟩ : ByteArray) ∧ co = (0 : Int) ∧ (nm.length : Int) = (0 : Int)) := by kernel_rfl
  rw [e]
  simp only [Prod.mk.injEq, true_and, and_true, bstr_empty, Int.natCast_eq_zero, List.length_eq_zero_iff, eq_comm (a := ([] : List Nat)), eq_comm (a := ([] : List Entry)), eq_comm (a := ([] : List Int)), eq_comm (a := ([] : List (List Nat))), eq_comm (a := (0 : Nat)), eq_comm (a := (0 : Int)), eq_comm (a := false)]
  first
    | done
    | (constructor <;> intro h <;> simp_all)
theorem rest_6 : NoRest 51 tm ix lt cm cx ok fo en.length vo.length le.length hv hi he hk hn hs hu da.length cl sq op (bstr ky) co nm.length ↔ ((6, fr, tn, tm, ix, 0, 0, cx, ok, false, [], ([], []), ((0, 0, 0), 0, 0, 0, 0), [], 0, 0, 0, [], 0, []) : Msg) = (6, fr, tn, tm, ix, lt, cm, cx, ok, fo, en, (vo, le), ((hv, hi, he), hk, hn, hs, hu), da, cl, sq, op, ky, co, nm) := by
  have e : NoRest 51 tm ix lt cm cx ok fo en.length vo.length le.length hv hi he hk hn hs hu da.length cl sq op (bstr ky) co nm.length = ((0 : Int) = (0 : Int) ∧ (0 : Int) = (0 : Int) ∧ (lt : Int) = (0 : Int) ∧ (cm : Int) = (0 : Int) ∧ (0 : Int) = (0 : Int) ∧ false = false ∧ fo = false ∧ (en.length : Int) = (0 : Int) ∧ (vo.length : Int) = (0 : Int) ∧ (le.length : Int) = (0 : Int) ∧ (hv : Int) = (0 : Int) ∧ hi = (0 : Int) ∧ (he : Int) = (0 : Int) ∧ hk = (0 : Int) ∧ hn = (0 : Int) ∧ hs = (0 : Int) ∧ (hu : Int) = (0 : Int) ∧ (da.length : Int) = (0 : Int) ∧ (cl : Int) = (0 : Int) ∧ (sq : Int) = (0 : Int) ∧ op = (0 : Int) ∧ bstr ky = (⟨#[]⟩ : ByteArray) ∧ co = (0 : Int) ∧ (nm.length : Int) = (0 : Int)) := by kernel_rfl
  rw [e]
  simp only [Prod.mk.injEq, true_and, and_true, bstr_empty, Int.natCast_eq_zero, List.length_eq_zero_iff, eq_comm (a := ([] : List Nat)), eq_comm (a := ([] : List Entry)), eq_comm (a := ([] : List Int)), eq_comm (a := ([] : List (List Nat))), eq_comm (a := (0 : Nat)), eq_comm (a := (0 : Int)), eq_comm (a := false)]
  first
    | done
    | (constructor <;> intro h <;> simp_all)
theorem rest_7 : NoRest 1287 tm ix lt cm cx ok fo en.length vo.length le.length hv hi he hk hn hs hu da.length cl sq op (bstr ky) co nm.length ↔ ((7, fr, tn, tm, ix, lt, 0, 0, false, false, [], (vo, le), ((0, 0, 0), 0, 0, 0, 0), da, 0, 0, 0, [], 0, []) : Msg) = (7, fr, tn, tm, ix, lt, cm, cx, ok, fo, en, (vo, le), ((hv, hi, he), hk, hn, hs, hu), da, cl, sq, op, ky, co, nm) := by
  have e : NoRest 1287 tm ix lt cm cx ok fo en.length vo.length le.length hv hi he hk hn hs hu da.length cl sq op (bstr ky) co nm.length = ((0 : Int) = (0 : Int) ∧ (0 : Int) = (0 : Int) ∧ (0 : Int) = (0 : Int) ∧ (cm : Int) = (0 : Int) ∧ (cx : Int) = (0 : Int) ∧ ok = false ∧ fo = false ∧ (en.length : Int) = (0 : Int) ∧ (0 : Int) = (0 : Int) ∧ (0 : Int) = (0 : Int) ∧ (hv : Int) = (0 : Int) ∧ hi = (0 : Int) ∧ (he : Int) = (0 : Int) ∧ hk = (0 : Int) ∧ hn = (0 : Int) ∧ hs = (0 : Int) ∧ (hu : Int) = (0 : Int) ∧ (0 : Int) = (0 : Int) ∧ (cl : Int) = (0 : Int) ∧ (sq : Int) = (0 : Int) ∧ op = (0 : Int) ∧ bstr ky = (⟨#[]⟩ : ByteArray) ∧ co = (0 : Int) ∧ (nm.length : Int) = (0 : Int)) := by kernel_rfl
  rw [e]
  simp only [Prod.mk.injEq, true_and, and_true, bstr_empty, Int.natCast_eq_zero, List.length_eq_zero_iff, eq_comm (a := ([] : List Nat)), eq_comm (a := ([] : List Entry)), eq_comm (a := ([] : List Int)), eq_comm (a := ([] : List (List Nat))), eq_comm (a := (0 : Nat)), eq_comm (a := (0 : Int)), eq_comm (a := false)]
  first
    | done
    | (constructor <;> intro h <;> simp_all)
theorem rest_8 : NoRest 1 tm ix lt cm cx ok fo en.length vo.length le.length hv hi he hk hn hs hu da.length cl sq op (bstr ky) co nm.length ↔ ((8, fr, tn, tm, 0, 0, 0, 0, false, false, [], ([], []), ((0, 0, 0), 0, 0, 0, 0), [], 0, 0, 0, [], 0, []) : Msg) = (8, fr, tn, tm, ix, lt, cm, cx, ok, fo, en, (vo, le), ((hv, hi, he), hk, hn, hs, hu), da, cl, sq, op, ky, co, nm) := by
  have e : NoRest 1 tm ix lt cm cx ok fo en.length vo.length le.length hv hi he hk hn hs hu da.length cl sq op (bstr ky) co nm.length = ((0 : Int) = (0 : Int) ∧ (ix : Int) = (0 : Int) ∧ (lt : Int) = (0 : Int) ∧ (cm : Int) = (0 : Int) ∧ (cx : Int) = (0 : Int) ∧ ok = false ∧ fo = false ∧ (en.length : Int) = (0 : Int) ∧ (vo.length : Int) = (0 : Int) ∧ (le.length : Int) = (0 : Int) ∧ (hv : Int) = (0 : Int) ∧ hi = (0 : Int) ∧ (he : Int) = (0 : Int) ∧ hk = (0 : Int) ∧ hn = (0 : Int) ∧ hs = (0 : Int) ∧ (hu : Int) = (0 : Int) ∧ (da.length : Int) = (0 : Int) ∧ (cl : Int) = (0 : Int) ∧ (sq : Int) = (0 : Int) ∧ op = (0 : Int) ∧ bstr ky = (⟨#[]⟩ : ByteArray) ∧ co = (0 : Int) ∧ (nm.length : Int) = (0 : Int)) := by kernel_rfl
  rw [e]
  simp only [Prod.mk.injEq, true_and, and_true, bstr_empty, Int.natCast_eq_zero, List.length_eq_zero_iff, eq_comm (a := ([] : List Nat)), eq_comm (a := ([] : List Entry)), eq_comm (a := ([] : List Int)), eq_comm (a := ([] : List (List Nat))), eq_comm (a := (0 : Nat)), eq_comm (a := (0 : Int)), eq_comm (a := false)]
  first
    | done
    | (constructor <;> intro h <;> simp_all)
theorem rest_9 : NoRest 1536 tm ix lt cm cx ok fo en.length vo.length le.length hv hi he hk hn hs hu da.length cl sq op (bstr ky) co nm.length ↔ ((9, fr, tn, 0, 0, 0, 0, 0, false, false, [], ([], []), ((hv, hi, he), hk, hn, hs, hu), da, 0, 0, 0, [], 0, []) : Msg) = (9, fr, tn, tm, ix, lt, cm, cx, ok, fo, en, (vo, le), ((hv, hi, he), hk, hn, hs, hu), da, cl, sq, op, ky, co, nm) := by
  have e : NoRest 1536 tm ix lt cm cx ok fo en.length vo.length le.length hv hi he hk hn hs hu da.length cl sq op (bstr ky) co nm.length = ((tm : Int) = (0 : Int) ∧ (ix : Int) = (0 : Int) ∧ (lt : Int) = (0 : Int) ∧ (cm : Int) = (0 : Int) ∧ (cx : Int) = (0 : Int) ∧ ok = false ∧ fo = false ∧ (en.length : Int) = (0 : Int) ∧ (vo.length : Int) = (0 : Int) ∧ (le.length : Int) = (0 : Int) ∧ (0 : Int) = (0 : Int) ∧ (0 : Int) = (0 : Int) ∧ (0 : Int) = (0 : Int) ∧ (0 : Int) = (0 : Int) ∧ (0 : Int) = (0 : Int) ∧ (0 : Int) = (0 : Int) ∧ (0 : Int) = (0 : Int) ∧ (0 : Int) = (0 : Int) ∧ (cl : Int) = (0 : Int) ∧ (sq : Int) = (0 : Int) ∧ op = (0 : Int) ∧ bstr ky = (⟨#[]⟩ : ByteArray) ∧ co = (0 : Int) ∧ (nm.length : Int) = (0 : Int)) := by kernel_rfl
  rw [e]
  simp only [Prod.mk.injEq, true_and, and_true, bstr_empty, Int.natCast_eq_zero, List.length_eq_zero_iff, eq_comm (a := ([] : List Nat)), eq_comm (a := ([] : List Entry)), eq_comm (a := ([] : List Int)), eq_comm (a := ([] : List (List Nat))), eq_comm (a := (0 : Nat)), eq_comm (a := (0 : Int)), eq_comm (a := false)]
  first
    | done
    | (constructor <;> intro h <;> simp_all)
theorem rest_10 : NoRest 544 tm ix lt cm cx ok fo en.length vo.length le.length hv hi he hk hn hs hu da.length cl sq op (bstr ky) co nm.length ↔ ((10, fr, tn, 0, 0, 0, 0, 0, ok, false, [], ([], []), ((hv, hi, he), hk, hn, hs, hu), [], 0, 0, 0, [], 0, []) : Msg) = (10, fr, tn, tm, ix, lt, cm, cx, ok, fo, en, (vo, le), ((hv, hi, he), hk, hn, hs, hu), da, cl, sq, op, ky, co, nm) := by
  have e : NoRest 544 tm ix lt cm cx ok fo en.length vo.length le.length hv hi he hk hn hs hu da.length cl sq op (bstr ky) co nm.length = ((tm : Int) = (0 : Int) ∧ (ix : Int) = (0 : Int) ∧ (lt : Int) = (0 : Int) ∧ (cm : Int) = (0 : Int) ∧ (cx : Int) = (0 : Int) ∧ false = false ∧ fo = false ∧ (en.length : Int) = (0 : Int) ∧ (vo.length : Int) = (0 : Int) ∧ (le.length : Int) = (0 : Int) ∧ (0 : Int) = (0 : Int) ∧ (0 : Int) = (0 : Int) ∧ (0 : Int) = (0 : Int) ∧ (0 : Int) = (0 : Int) ∧ (0 : Int) = (0 : Int) ∧ (0 : Int) = (0 : Int) ∧ (0 : Int) = (0 : Int) ∧ (da.length : Int) = (0 : Int) ∧ (cl : Int) = (0 : Int) ∧ (sq : Int) = (0 : Int) ∧ op = (0 : Int) ∧ bstr ky = (⟨#[]⟩ : ByteArray) ∧ co = (0 : Int) ∧ (nm.length : Int) = (0 : Int)) := by kernel_rfl
  rw [e]
  simp only [Prod.mk.injEq, true_and, and_true, bstr_empty, Int.natCast_eq_zero, List.length_eq_zero_iff, eq_comm (a := ([] : List Nat)), eq_comm (a := ([] : List Entry)), eq_comm (a := ([] : List Int)), eq_comm (a := ([] : List (List Nat))), eq_comm (a := (0 : Nat)), eq_comm (a := (0 : Int)), eq_comm (a := false)]
  first
    | done
    | (constructor <;> intro h <;> simp_all)
theorem rest_11 : NoRest 512 tm ix lt cm cx ok fo en.length vo.length le.length hv hi he hk hn hs hu da.length cl sq op (bstr ky) co nm.length ↔ ((11, fr, tn, 0, 0, 0, 0, 0, false, false, [], ([], []), ((hv, hi, he), hk, hn, hs, hu), [], 0, 0, 0, [], 0, []) : Msg) = (11, fr, tn, tm, ix, lt, cm, cx, ok, fo, en, (vo, le), ((hv, hi, he), hk, hn, hs, hu), da, cl, sq, op, ky, co, nm) := by
  have e : NoRest 512 tm ix lt cm cx ok fo en.length vo.length le.length hv hi he hk hn hs hu da.length cl sq op (bstr ky) co nm.length = ((tm : Int) = (0 : Int) ∧ (ix : Int) = (0 : Int) ∧ (lt : Int) = (0 : Int) ∧ (cm : Int) = (0 : Int) ∧ (cx : Int) = (0 : Int) ∧ ok = false ∧ fo = false ∧ (en.length : Int) = (0 : Int) ∧ (vo.length : Int) = (0 : Int) ∧ (le.length : Int) = (0 : Int) ∧ (0 : Int) = (0 : Int) ∧ (0 : Int) = (0 : Int) ∧ (0 : Int) = (0 : Int) ∧ (0 : Int) = (0 : Int) ∧ (0 : Int) = (0 : Int) ∧ (0 : Int) = (0 : Int) ∧ (0 : Int) = (0 : Int) ∧ (da.length : Int) = (0 : Int) ∧ (cl : Int) = (0 : Int) ∧ (sq : Int) = (0 : Int) ∧ op = (0 : Int) ∧ bstr ky = (⟨#[]⟩ : ByteArray) ∧ co = (0 : Int) ∧ (nm.length : Int) = (0 : Int)) := by kernel_rfl
  rw [e]
  simp only [Prod.mk.injEq, true_and, and_true, bstr_empty, Int.natCast_eq_zero, List.length_eq_zero_iff, eq_comm (a := ([] : List Nat)), eq_comm (a := ([] : List Entry)), eq_comm (a := ([] : List Int)), eq_comm (a := ([] : List (List Nat))), eq_comm (a := (0 : Nat)), eq_comm (a := (0 : Int)), eq_comm (a := false)]
  first
    | done
    | (constructor <;> intro h <;> simp_all)
theorem rest_12 : NoRest 512 tm ix lt cm cx ok fo en.length vo.length le.length hv hi he hk hn hs hu da.length cl sq op (bstr ky) co nm.length ↔ ((12, fr, tn, 0, 0, 0, 0, 0, false, false, [], ([], []), ((hv, hi, he), hk, hn, hs, hu), [], 0, 0, 0, [], 0, []) : Msg) = (12, fr, tn, tm, ix, lt, cm, cx, ok, fo, en, (vo, le), ((hv, hi, he), hk, hn, hs, hu), da, cl, sq, op, ky, co, nm) := by
  have e : NoRest 512 tm ix lt cm cx ok fo en.length vo.length le.length hv hi he hk hn hs hu da.length cl sq op (bstr ky) co nm.length = ((tm : Int) = (0 : Int) ∧ (ix : Int) = (0 : Int) ∧ (lt : Int) = (0 : Int) ∧ (cm : Int) = (0 : Int) ∧ (cx : Int) = (0 : Int) ∧ ok = false ∧ fo = false ∧ (en.length : Int) = (0 : Int) ∧ (vo.length : Int) = (0 : Int) ∧ (le.length : Int) = (0 : Int) ∧ (0 : Int) = (0 : Int) ∧ (0 : Int) = (0 : Int) ∧ (0 : Int) = (0 : Int) ∧ (0 : Int) = (0 : Int) ∧ (0 : Int) = (0 : Int) ∧ (0 : Int) = (0 : Int) ∧ (0 : Int) = (0 : Int) ∧ (da.length : Int) = (0 : Int) ∧ (cl : Int) = (0 : Int) ∧ (sq : Int) = (0 : Int) ∧ op = (0 : Int) ∧ bstr ky = (⟨#[]⟩ : ByteArray) ∧ co = (0 : Int) ∧ (nm.length : Int) = (0 : Int)) := by kernel_rfl
  rw [e]
  simp only [Prod.mk.injEq, true_and, and_true, bstr_empty, Int.natCast_eq_zero, List.length_eq_zero_iff, eq_comm (a := ([] : List Nat)), eq_comm (a := ([] : List Entry)), eq_comm (a := ([] : List Int)), eq_comm (a := ([] : List (List Nat))), eq_comm (a := (0 : Nat)), eq_comm (a := (0 : Int)), eq_comm (a := false)]
  first
    | done
    | (constructor <;> intro h <;> simp_all)
theorem rest_13 : NoRest 512 tm ix lt cm cx ok fo en.length vo.length le.length hv hi he hk hn hs hu da.length cl sq op (bstr ky) co nm.length ↔ ((13, fr, tn, 0, 0, 0, 0, 0, false, false, [], ([], []), ((hv, hi, he), hk, hn, hs, hu), [], 0, 0, 0, [], 0, []) : Msg) = (13, fr, tn, tm, ix, lt, cm, cx, ok, fo, en, (vo, le), ((hv, hi, he), hk, hn, hs, hu), da, cl, sq, op, ky, co, nm) := by
  have e : NoRest 512 tm ix lt cm cx ok fo en.length vo.length le.length hv hi he hk hn hs hu da.length cl sq op (bstr ky) co nm.length = ((tm : Int) = (0 : Int) ∧ (ix : Int) = (0 : Int) ∧ (lt : Int) = (0 : Int) ∧ (cm : Int) = (0 : Int) ∧ (cx : Int) = (0 : Int) ∧ ok = false ∧ fo = false ∧ (en.length : Int) = (0 : Int) ∧ (vo.length : Int) = (0 : Int) ∧ (le.length : Int) = (0 : Int) ∧ (0 : Int) = (0 : Int) ∧ (0 : Int) = (0 : Int) ∧ (0 : Int) = (0 : Int) ∧ (0 : Int) = (0 : Int) ∧ (0 : Int) = (0 : Int) ∧ (0 : Int) = (0 : Int) ∧ (0 : Int) = (0 : Int) ∧ (da.length : Int) = (0 : Int) ∧ (cl : Int) = (0 : Int) ∧ (sq : Int) = (0 : Int) ∧ op = (0 : Int) ∧ bstr ky = (⟨#[]⟩ : ByteArray) ∧ co = (0 : Int) ∧ (nm.length : Int) = (0 : Int)) := by kernel_rfl
  rw [e]
  simp only [Prod.mk.injEq, true_and, and_true, bstr_empty, Int.natCast_eq_zero, List.length_eq_zero_iff, eq_comm (a := ([] : List Nat)), eq_comm (a := ([] : List Entry)), eq_comm (a := ([] : List Int)), eq_comm (a := ([] : List (List Nat))), eq_comm (a := (0 : Nat)), eq_comm (a := (0 : Int)), eq_comm (a := false)]
  first
    | done
    | (constructor <;> intro h <;> simp_all)
theorem rest_14 : NoRest 512 tm ix lt cm cx ok fo en.length vo.length le.length hv hi he hk hn hs hu da.length cl sq op (bstr ky) co nm.length ↔ ((14, fr, tn, 0, 0, 0, 0, 0, false, false, [], ([], []), ((hv, hi, he), hk, hn, hs, hu), [], 0, 0, 0, [], 0, []) : Msg) = (14, fr, tn, tm, ix, lt, cm, cx, ok, fo, en, (vo, le), ((hv, hi, he), hk, hn, hs, hu), da, cl, sq, op, ky, co, nm) := by
  have e : NoRest 512 tm ix lt cm cx ok fo en.length vo.length le.length hv hi he hk hn hs hu da.length cl sq op (bstr ky) co nm.length = ((tm : Int) = (0 : Int) ∧ (ix : Int) = (0 : Int) ∧ (lt : Int) = (0 : Int) ∧ (cm : Int) = (0 : Int) ∧ (cx : Int) = (0 : Int) ∧ ok = false ∧ fo = false ∧ (en.length : Int) = (0 : Int) ∧ (vo.length : Int) = (0 : Int) ∧ (le.length : Int) = (0 : Int) ∧ (0 : Int) = (0 : Int) ∧ (0 : Int) = (0 : Int) ∧ (0 : Int) = (0 : Int) ∧ (0 : Int) = (0 : Int) ∧ (0 : Int) = (0 : Int) ∧ (0 : Int) = (0 : Int) ∧ (0 : Int) = (0 : Int) ∧ (da.length : Int) = (0 : Int) ∧ (cl : Int) = (0 : Int) ∧ (sq : Int) = (0 : Int) ∧ op = (0 : Int) ∧ bstr ky = (⟨#[]⟩ : ByteArray) ∧ co = (0 : Int) ∧ (nm.length : Int) = (0 : Int)) := by kernel_rfl
  rw [e]
  simp only [Prod.mk.injEq, true_and, and_true, bstr_empty, Int.natCast_eq_zero, List.length_eq_zero_iff, eq_comm (a := ([] : List Nat)), eq_comm (a := ([] : List Entry)), eq_comm (a := ([] : List Int)), eq_comm (a := ([] : List (List Nat))), eq_comm (a := (0 : Nat)), eq_comm (a := (0 : Int)), eq_comm (a := false)]
  first
    | done
    | (constructor <;> intro h <;> simp_all)
theorem rest_15 : NoRest 1568 tm ix lt cm cx ok fo en.length vo.length le.length hv hi he hk hn hs hu da.length cl sq op (bstr ky) co nm.length ↔ ((15, fr, tn, 0, 0, 0, 0, 0, ok, false, [], ([], []), ((hv, hi, he), hk, hn, hs, hu), da, 0, 0, 0, [], 0, []) : Msg) = (15, fr, tn, tm, ix, lt, cm, cx, ok, fo, en, (vo, le), ((hv, hi, he), hk, hn, hs, hu), da, cl, sq, op, ky, co, nm) := by
  have e : NoRest 1568 tm ix lt cm cx ok fo en.length vo.length le.length hv hi he hk hn hs hu da.length cl sq op (bstr ky) co nm.length = ((tm : Int) = (0 : Int) ∧ (ix : Int) = (0 : Int) ∧ (lt : Int) = (0 : Int) ∧ (cm : Int) = (0 : Int) ∧ (cx : Int) = (0 : Int) ∧ false = false ∧ fo = false ∧ (en.length : Int) = (0 : Int) ∧ (vo.length : Int) = (0 : Int) ∧ (le.length : Int) = (0 : Int) ∧ (0 : Int) = (0 : Int) ∧ (0 : Int) = (0 : Int) ∧ (0 : Int) = (0 : Int) ∧ (0 : Int) = (0 : Int) ∧ (0 : Int) = (0 : Int) ∧ (0 : Int) = (0 : Int) ∧ (0 : Int) = (0 : Int) ∧ (0 : Int) = (0 : Int) ∧ (cl : Int) = (0 : Int) ∧ (sq : Int) = (0 : Int) ∧ op = (0 : Int) ∧ bstr ky = (⟨#[]⟩ : ByteArray) ∧ co = (0 : Int) ∧ (nm.length : Int) = (0 : Int)) := by kernel_rfl
  rw [e]
  simp only [Prod.mk.injEq, true_and, and_true, bstr_empty, Int.natCast_eq_zero, List.length_eq_zero_iff, eq_comm (a := ([] : List Nat)), eq_comm (a := ([] : List Entry)), eq_comm (a := ([] : List Int)), eq_comm (a := ([] : List (List Nat))), eq_comm (a := (0 : Nat)), eq_comm (a := (0 : Int)), eq_comm (a := false)]
  first
    | done
    | (constructor <;> intro h <;> simp_all)
theorem rest_16 : NoRest 31744 tm ix lt cm cx ok fo en.length vo.length le.length hv hi he hk hn hs hu da.length cl sq op (bstr ky) co nm.length ↔ ((16, fr, tn, 0, 0, 0, 0, 0, false, false, [], ([], []), ((0, 0, 0), 0, 0, 0, 0), da, cl, sq, op, ky, 0, []) : Msg) = (16, fr, tn, tm, ix, lt, cm, cx, ok, fo, en, (vo, le), ((hv, hi, he), hk, hn, hs, hu), da, cl, sq, op, ky, co, nm) := by
  have e : NoRest 31744 tm ix lt cm cx ok fo en.length vo.length le.length hv hi he hk hn hs hu da.length cl sq op (bstr ky) co nm.length = ((tm : Int) = (0 : Int) ∧ (ix : Int) = (0 : Int) ∧ (lt : Int) = (0 : Int) ∧ (cm : Int) = (0 : Int) ∧ (cx : Int) = (0 : Int) ∧ ok = false ∧ fo = false ∧ (en.length : Int) = (0 : Int) ∧ (vo.length : Int) = (0 : Int) ∧ (le.length : Int) = (0 : Int) ∧ (hv : Int) = (0 : Int) ∧ hi = (0 : Int) ∧ (he : Int) = (0 : Int) ∧ hk = (0 : Int) ∧ hn = (0 : Int) ∧ hs = (0 : Int) ∧ (hu : Int) = (0 : Int) ∧ (0 : Int) = (0 : Int) ∧ (0 : Int) = (0 : Int) ∧ (0 : Int) = (0 : Int) ∧ (0 : Int) = (0 : Int) ∧ (⟨#[]⟩ : ByteArray) = (⟨#[]⟩ : ByteArray) ∧ co = (0 : Int) ∧ (nm.length : Int) = (0 : Int)) := by kernel_rfl
  rw [e]
  simp only [Prod.mk.injEq, true_and, and_true, bstr_empty, Int.natCast_eq_zero, List.length_eq_zero_iff, eq_comm (a := ([] : List Nat)), eq_comm (a := ([] : List Entry)), eq_comm (a := ([] : List Int)), eq_comm (a := ([] : List (List Nat))), eq_comm (a := (0 : Nat)), eq_comm (a := (0 : Int)), eq_comm (a := false)]
  first
    | done
    | (constructor <;> intro h <;> simp_all)
theorem rest_17 : NoRest 105488 tm ix lt cm cx ok fo en.length vo.length le.length hv hi he hk hn hs hu da.length cl sq op (bstr ky) co nm.length ↔ ((17, fr, tn, 0, 0, 0, 0, cx, false, false, [], ([], []), ((0, 0, 0), 0, 0, 0, 0), da, cl, sq, 0, [], co, nm) : Msg) = (17, fr, tn, tm, ix, lt, cm, cx, ok, fo, en, (vo, le), ((hv, hi, he), hk, hn, hs, hu), da, cl, sq, op, ky, co, nm) := by
  have e : NoRest 105488 tm ix lt cm cx ok fo en.length vo.length le.length hv hi he hk hn hs hu da.length cl sq op (bstr ky) co nm.length = ((tm : Int) = (0 : Int) ∧ (ix : Int) = (0 : Int) ∧ (lt : Int) = (0 : Int) ∧ (cm : Int) = (0 : Int) ∧ (0 : Int) = (0 : Int) ∧ ok = false ∧ fo = false ∧ (en.length : Int) = (0 : Int) ∧ (vo.length : Int) = (0 : Int) ∧ (le.length : Int) = (0 : Int) ∧ (hv : Int) = (0 : Int) ∧ hi = (0 : Int) ∧ (he : Int) = (0 : Int) ∧ hk = (0 : Int) ∧ hn = (0 : Int) ∧ hs = (0 : Int) ∧ (hu : Int) = (0 : Int) ∧ (0 : Int) = (0 : Int) ∧ (0 : Int) = (0 : Int) ∧ (0 : Int) = (0 : Int) ∧ op = (0 : Int) ∧ bstr ky = (⟨#[]⟩ : ByteArray) ∧ (0 : Int) = (0 : Int) ∧ (0 : Int) = (0 : Int)) := by kernel_rfl
  rw [e]
  simp only [Prod.mk.injEq, true_and, and_true, bstr_empty, Int.natCast_eq_zero, List.length_eq_zero_iff, eq_comm (a := ([] : List Nat)), eq_comm (a := ([] : List Entry)), eq_comm (a := ([] : List Int)), eq_comm (a := ([] : List (List Nat))), eq_comm (a := (0 : Nat)), eq_comm (a := (0 : Int)), eq_comm (a := false)]
  first
    | done
    | (constructor <;> intro h <;> simp_all)
theorem rest_18 : NoRest 16 tm ix lt cm cx ok fo en.length vo.length le.length hv hi he hk hn hs hu da.length cl sq op (bstr ky) co nm.length ↔ ((18, fr, tn, 0, 0, 0, 0, cx, false, false, [], ([], []), ((0, 0, 0), 0, 0, 0, 0), [], 0, 0, 0, [], 0, []) : Msg) = (18, fr, tn, tm, ix, lt, cm, cx, ok, fo, en, (vo, le), ((hv, hi, he), hk, hn, hs, hu), da, cl, sq, op, ky, co, nm) := by
  have e : NoRest 16 tm ix lt cm cx ok fo en.length vo.length le.length hv hi he hk hn hs hu da.length cl sq op (bstr ky) co nm.length = ((tm : Int) = (0 : Int) ∧ (ix : Int) = (0 : Int) ∧ (lt : Int) = (0 : Int) ∧ (cm : Int) = (0 : Int) ∧ (0 : Int) = (0 : Int) ∧ ok = false ∧ fo = false ∧ (en.length : Int) = (0 : Int) ∧ (vo.length : Int) = (0 : Int) ∧ (le.length : Int) = (0 : Int) ∧ (hv : Int) = (0 : Int) ∧ hi = (0 : Int) ∧ (he : Int) = (0 : Int) ∧ hk = (0 : Int) ∧ hn = (0 : Int) ∧ hs = (0 : Int) ∧ (hu : Int) = (0 : Int) ∧ (da.length : Int) = (0 : Int) ∧ (cl : Int) = (0 : Int) ∧ (sq : Int) = (0 : Int) ∧ op = (0 : Int) ∧ bstr ky = (⟨#[]⟩ : ByteArray) ∧ co = (0 : Int) ∧ (nm.length : Int) = (0 : Int)) := by kernel_rfl
  rw [e]
  simp only [Prod.mk.injEq, true_and, and_true, bstr_empty, Int.natCast_eq_zero, List.length_eq_zero_iff, eq_comm (a := ([] : List Nat)), eq_comm (a := ([] : List Entry)), eq_comm (a := ([] : List Int)), eq_comm (a := ([] : List (List Nat))), eq_comm (a := (0 : Nat)), eq_comm (a := (0 : Int)), eq_comm (a := false)]
  first
    | done
    | (constructor <;> intro h <;> simp_all)
theorem rest_19 : NoRest 16 tm ix lt cm cx ok fo en.length vo.length le.length hv hi he hk hn hs hu da.length cl sq op (bstr ky) co nm.length ↔ ((19, fr, tn, 0, 0, 0, 0, cx, false, false, [], ([], []), ((0, 0, 0), 0, 0, 0, 0), [], 0, 0, 0, [], 0, []) : Msg) = (19, fr, tn, tm, ix, lt, cm, cx, ok, fo, en, (vo, le), ((hv, hi, he), hk, hn, hs, hu), da, cl, sq, op, ky, co, nm) := by
  have e : NoRest 16 tm ix lt cm cx ok fo en.length vo.length le.length hv hi he hk hn hs hu da.length cl sq op (bstr ky) co nm.length = ((tm : Int) = (0 : Int) ∧ (ix : Int) = (0 : Int) ∧ (lt : Int) = (0 : Int) ∧ (cm : Int) = (0 : Int) ∧ (0 : Int) = (0 : Int) ∧ ok = false ∧ fo = false ∧ (en.length : Int) = (0 : Int) ∧ (vo.length : Int) = (0 : Int) ∧ (le.length : Int) = (0 : Int) ∧ (hv : Int) = (0 : Int) ∧ hi = (0 : Int) ∧ (he : Int) = (0 : Int) ∧ hk = (0 : Int) ∧ hn = (0 : Int) ∧ hs = (0 : Int) ∧ (hu : Int) = (0 : Int) ∧ (da.length : Int) = (0 : Int) ∧ (cl : Int) = (0 : Int) ∧ (sq : Int) = (0 : Int) ∧ op = (0 : Int) ∧ bstr ky = (⟨#[]⟩ : ByteArray) ∧ co = (0 : Int) ∧ (nm.length : Int) = (0 : Int)) := by kernel_rfl
  rw [e]
  simp only [Prod.mk.injEq, true_and, and_true, bstr_empty, Int.natCast_eq_zero, List.length_eq_zero_iff, eq_comm (a := ([] : List Nat)), eq_comm (a := ([] : List Entry)), eq_comm (a := ([] : List Int)), eq_comm (a := ([] : List (List Nat))), eq_comm (a := (0 : Nat)), eq_comm (a := (0 : Int)), eq_comm (a := false)]
  first
    | done
    | (constructor <;> intro h <;> simp_all)
end
set_option maxRecDepth 100000 in
set_option maxHeartbeats 8000000 in
theorem part_none (kd : Int) (hkd : kd < 1 ∨ 19 < kd) (fr tn : Int) (tm ix lt cm cx : Nat) (ok fo : Bool) (Ae : Option Addr) (en ce : Nat) (Av : Option Addr) (vo cv : Nat) (Al : Option Addr) (le cl' : Nat) (hv : Nat) (hi : Int) (he : Nat) (hk hn hs : Int) (hu : Nat) (Ad : Option Addr) (da cd : Nat) (cl sq : Nat) (op : Int) (ky : ByteArray) (co : Int) (An : Option Addr) (nm cn : Nat) (A : Array Value) (hA : A = #[V J kd, V J fr, V J tn, V U tm, V U ix, V U lt, V U cm, V U cx, .bool ok, .bool fo, .slice Ae en ce, .slice Av vo cv, .slice Al le cl', V U hv, V J hi, V U he, V J hk, V J hn, V J hs, V .u32 hu, .slice Ad da cd, V U cl, V U sq, V J op, .string ky, V J co, .slice An nm cn]) (w : World) :
    Calls Tryz.prog 31 #[.agg A] w fun e w' => e = .returned (.tuple #[.agg #[V J kd, V J fr, V J tn, V U 0, V U 0, V U 0, V U 0, V U 0, .bool false, .bool false, O none 0 0, O none 0 0, O none 0 0, V U 0, V J 0, V U 0, V J 0, V J 0, V J 0, V .u32 0, O none 0 0, V U 0, V U 0, V J 0, .string ⟨#[]⟩, V J 0, O none 0 0], .bool false]) ∧ Below w.heap.size w w' := by
  obtain ⟨c0, c1, c2, h3⟩ := part_open w kd fr tn A (by rw [hA]; rfl) (by rw [hA]; rfl) (by rw [hA]; rfl)
  have H3 := Lib.hid h3
  have HS := Lib.hid (part_start w A (pB kd fr tn))
  have HA := Lib.hid hA
  have e1 : (kd == 1) = false := by simp; omega
  have e2 : (kd == 2) = false := by simp; omega
  have e3 : (kd == 3) = false := by simp; omega
  have e4 : (kd == 4) = false := by simp; omega
  have e5 : (kd == 5) = false := by simp; omega
  have e6 : (kd == 6) = false := by simp; omega
  have e7 : (kd == 7) = false := by simp; omega
  have e8 : (kd == 8) = false := by simp; omega
  have e9 : (kd == 9) = false := by simp; omega
  have e10 : (kd == 10) = false := by simp; omega
  have e11 : (kd == 11) = false := by simp; omega
  have e12 : (kd == 12) = false := by simp; omega
  have e13 : (kd == 13) = false := by simp; omega
  have e14 : (kd == 14) = false := by simp; omega
  have e15 : (kd == 15) = false := by simp; omega
  have e16 : (kd == 16) = false := by simp; omega
  have e17 : (kd == 17) = false := by simp; omega
  have e18 : (kd == 18) = false := by simp; omega
  have e19 : (kd == 19) = false := by simp; omega
  clear h3 hA hkd
  go_enter Tryz.func31, Tryz.ntmps31
  go_upto_region 2 with (refine wpList_store_row rfl 47 _ _ rfl (w.heap.size + 2) (pB kd fr tn) rfl rfl 47 pZ H3.out (by kernel_rfl) rfl (by simp [Value.oneCell']) ?_)
  generalize (((w.alloc (.cells A 47)).alloc (.cells pZ 47)).alloc (.cells pZ 47)).setRow (w.heap.size + 2) (pB kd fr tn) = w1 at *
  have hp := HS.out
  have d0 : w1.cell? ⟨w.heap.size, 0, none⟩ = some (V J kd) := by rw [cell_of_row _ w.heap.size 0 _ _ _ hp.a, HA.out]; rfl
  clear c0 c1 c2 HS H3
  go_wp2_with (first
    | (refine wpList_load_row rfl 47 _ rfl (w.heap.size + 2) rfl 47 (pB kd fr tn) (0, 0) _ hp.x Tryz.underlying47 rfl (by kernel_rfl) ?_)
    | (refine wpList_store_row rfl 47 _ _ rfl (w.heap.size + 1) (pB kd fr tn) rfl rfl 47 pZ hp.z (by kernel_rfl) rfl (by simp [Value.oneCell']) ?_))
  have hbf : Below w.heap.size w (w1.setRow (w.heap.size + 1) (pB kd fr tn)) := ⟨hp.b.os, hp.b.tape, hp.b.output, by simpa using hp.b.size, fun k hk => (setRow_other _ _ _ _ (by omega)).trans (hp.b.block k hk)⟩
  refine bodyPost_ret (v := .tuple #[.agg (pB kd fr tn), .bool false]) (results_oneP Tryz.results31 _ (w.heap.size + 1) 47 _ (0, 0) _ _ rfl (setRow_heap _ _ _ _ _ _ hp.z) Tryz.underlying47 rfl (by kernel_rfl) rfl) rfl ⟨rfl, hbf⟩
set_option maxRecDepth 100000 in
set_option maxHeartbeats 2000000 in
theorem rCheck_none (A X : Array Value) (w : World) (hA : A.size = 27) (hX : X.size = 27) (h1 : X.all (·.oneCell') = true) (hp : ∀ w1, Calls Tryz.prog 31 #[.agg A] w1 fun e w' => e = .returned (.tuple #[.agg X, .bool false]) ∧ Below w1.heap.size w1 w') :
    Calls Tryz.prog 15 #[.agg A] w fun e w' => e = .returned (V J 2) ∧ Below w.heap.size w w' := by
  have hiA : (Tryz.prog.info? 47).map (·.size) = some A.size := by rw [hA]; kernel_rfl
  have g0 : (w.alloc (.cells A 47)).heap[w.heap.size]? = some (.cells A 47 (0, 0)) := heap_alloc_new _ _
  have hb0 : Below w.heap.size w (w.alloc (.cells A 47)) := (Below.refl _ _).alloc (Nat.le_refl _) _
  have hp1 := hp (w.alloc (.cells A 47))
  have hiX : (Tryz.prog.info? 47).map (·.size) = some X.size := by rw [hX]; kernel_rfl
  have H := Lib.hid (And.intro g0 (And.intro hb0 (And.intro hiA hiX)))
  have HX := Lib.hid (And.intro hX h1)
  clear g0 hb0 hiA hiX hX h1 hp hA
  go_enter Tryz.func15, Tryz.ntmps15
  go_wp2_with (refine wpList_load_rowg 47 _ rfl w.heap.size rfl (by kernel_rfl) 47 A (0, 0) _ H.out.1 Tryz.underlying47 rfl H.out.2.2.1 ?_)
  refine hp1.mono ?_
  rintro e w1 ⟨rfl, hb1⟩
  have hbb1 := H.out.2.1.trans (hb1.mono H.out.2.1.size)
  have hzz : (#[V J 0, V J 0, V J 0, V U 0, V U 0, V U 0, V U 0, V U 0, .bool false, .bool false, O none 0 0, O none 0 0, O none 0 0, V U 0, V J 0, V U 0, V J 0, V J 0, V J 0, V .u32 0, O none 0 0, V U 0, V U 0, V J 0, .string ⟨#[]⟩, V J 0, O none 0 0] : Array Value).size = X.size := HX.out.1.symm
  have kz : Keeps [] w1 ((w1.alloc (.cells #[V J 0, V J 0, V J 0, V U 0, V U 0, V U 0, V U 0, V U 0, .bool false, .bool false, O none 0 0, O none 0 0, O none 0 0, V U 0, V J 0, V U 0, V J 0, V J 0, V J 0, V .u32 0, O none 0 0, V U 0, V U 0, V J 0, .string ⟨#[]⟩, V J 0, O none 0 0] 47)).setRow w1.heap.size X) := ((Keeps.refl [] w1).alloc _).setRow (.inr (Nat.le_refl _)) _
  have hbb2 := hbb1.trans ((kz.below (B := w1.heap.size) (by simp) (Nat.le_refl _)).mono hbb1.size)
  have H2 := Lib.hid (And.intro hbb2 hzz)
  clear hbb1 kz hbb2 hb1 hp1 hzz
  go_wp2_with (with_reducible show wpList _ _ _ _ _ _; refine wpList_store_row rfl 47 _ _ rfl w1.heap.size X rfl rfl 47 #[V J 0, V J 0, V J 0, V U 0, V U 0, V U 0, V U 0, V U 0, .bool false, .bool false, O none 0 0, O none 0 0, O none 0 0, V U 0, V J 0, V U 0, V J 0, V J 0, V J 0, V .u32 0, O none 0 0, V U 0, V U 0, V J 0, .string ⟨#[]⟩, V J 0, O none 0 0] (heap_alloc_new _ _) H.out.2.2.2 H2.out.2 HX.out.2 ?_)
  go_ret
  exact ⟨rfl, H2.out.1⟩
set_option maxRecDepth 100000 in
theorem both_none (kd : Int) (hkd : kd < 1 ∨ 19 < kd) (fr tn : Int) (tm ix lt cm cx : Nat) (ok fo : Bool) (en : List Entry) (vo le : List Int) (hv : Nat) (hi : Int) (he : Nat) (hk hn hs : Int) (hu : Nat) (da : List Nat) (cl sq : Nat) (op : Int) (ky : List Nat) (co : Int) (nm : List (List Nat)) (Ae : Option Addr) (ce : Nat) (Av : Option Addr) (cv : Nat) (Al : Option Addr) (cl' : Nat) (Ad : Option Addr) (cd : Nat) (An : Option Addr) (cn : Nat) : BothOk #[V J kd, V J fr, V J tn, V U tm, V U ix, V U lt, V U cm, V U cx, .bool ok, .bool fo, .slice Ae en.length ce, .slice Av vo.length cv, .slice Al le.length cl', V U hv, V J hi, V U he, V J hk, V J hn, V J hs, V .u32 hu, .slice Ad da.length cd, V U cl, V U sq, V J op, .string (bstr ky), V J co, .slice An nm.length cn] (kd, fr, tn, tm, ix, lt, cm, cx, ok, fo, en, (vo, le), ((hv, hi, he), hk, hn, hs, hu), da, cl, sq, op, ky, co, nm) := by
  have hp := part_none kd hkd fr tn tm ix lt cm cx ok fo Ae en.length ce Av vo.length cv Al le.length cl' hv hi he hk hn hs hu Ad da.length cd cl sq op (bstr ky) co An nm.length cn _ rfl
  have hlk := fun (W : World) (b : Nat) (g : W.heap[b]? = some (.map eS 19)) => lookup_at kd none (V .u32 0) false (find_none kd hkd) (.inr (.inr ⟨rfl, rfl, rfl⟩)) W b g
  refine ⟨2, fun w hT _ => ?_, fun w _ _ _ => ?_⟩
  · exact Check_of [V J kd, V J fr, V J tn, V U tm, V U ix, V U lt, V U cm, V U cx, .bool ok, .bool fo, .slice Ae en.length ce, .slice Av vo.length cv, .slice Al le.length cl', V U hv, V J hi, V U he, V J hk, V J hn, V J hs, V .u32 hu, .slice Ad da.length cd, V U cl, V U sq, V J op, .string (bstr ky), V J co, .slice An nm.length cn] 2 w hT rfl fun w1 => check_kind kd fr tn tm ix lt cm cx ok fo Ae en.length ce Av vo.length cv Al le.length cl' hv hi he hk hn hs hu Ad da.length cd cl sq op (bstr ky) co An nm.length cn w1 hlk
  · exact rCheck_none _ _ w rfl rfl (by simp [Value.oneCell']) hp
theorem both_any (A : Array Value) (d : Msg) (w : World) (h : rMsg w [] A.toList d) : BothOk A d := by
  obtain ⟨kd, fr, tn, tm, ix, lt, cm, cx, ok, fo, en, ⟨vo, le⟩, ⟨⟨hv, hi, he⟩, hk, hn, hs, hu⟩, da, cl, sq, op, ky, co, nm⟩ := d
  obtain ⟨Ae, ce, Av, cv, Al, cl', Ad, cd, An, cn, e, _⟩ := msg_shape h
  have eA : A = #[V J kd, V J fr, V J tn, V U tm, V U ix, V U lt, V U cm, V U cx, .bool ok, .bool fo, .slice Ae en.length ce, .slice Av vo.length cv, .slice Al le.length cl', V U hv, V J hi, V U he, V J hk, V J hn, V J hs, V .u32 hu, .slice Ad da.length cd, V U cl, V U sq, V J op, .string (bstr ky), V J co, .slice An nm.length cn] := by
    have := congrArg List.toArray e
    simpa using this
  subst eA
  have hc : kd = 1 ∨ kd = 2 ∨ kd = 3 ∨ kd = 4 ∨ kd = 5 ∨ kd = 6 ∨ kd = 7 ∨ kd = 8 ∨ kd = 9 ∨ kd = 10 ∨ kd = 11 ∨ kd = 12 ∨ kd = 13 ∨ kd = 14 ∨ kd = 15 ∨ kd = 16 ∨ kd = 17 ∨ kd = 18 ∨ kd = 19 ∨ (kd < 1 ∨ 19 < kd) := by omega
  clear h e
  rcases hc with rfl | rfl | rfl | rfl | rfl | rfl | rfl | rfl | rfl | rfl | rfl | rfl | rfl | rfl | rfl | rfl | rfl | rfl | rfl | hc
  · exact both_of 1 71 fr tn tm ix lt cm cx ok fo en vo le hv hi he hk hn hs hu da cl sq op ky co nm Ae ce Av cv Al cl' Ad cd An cn 0 find_1 _ _ (part_1 fr tn tm ix lt cm cx ok fo Ae en.length ce Av vo.length cv Al le.length cl' hv hi he hk hn hs hu Ad da.length cd cl sq op (bstr ky) co An nm.length cn _ rfl) (rest_1 fr tn tm ix lt cm cx ok fo en vo le hv hi he hk hn hs hu da cl sq op ky co nm) rfl (by simp [Value.oneCell']) (fun w HM => msg_mk (x_int HM.kd') (x_int HM.fr') (x_int HM.tn') (x_num HM.tm') (x_num HM.ix') (x_num HM.lt') (z_num _ _) (z_num _ _) rfl rfl (z_list _ _ _ _ _) zc zh z_bytes (z_num _ _) (z_num _ _) (z_int _ _) (z_text _ _) (z_int _ _) (z_list _ _ _ _ _)) (by rw [len_msg, len_msg]; exact sum20 k7 k7 k7 k7 k7 k7 qn qn qf k7 qe qc qh qt qn qn qi qt qi qm) (Nat.zero_le _)
  · exact both_of 2 33 fr tn tm ix lt cm cx ok fo en vo le hv hi he hk hn hs hu da cl sq op ky co nm Ae ce Av cv Al cl' Ad cd An cn 1 find_2 _ _ (part_2 fr tn tm ix lt cm cx ok fo Ae en.length ce Av vo.length cv Al le.length cl' hv hi he hk hn hs hu Ad da.length cd cl sq op (bstr ky) co An nm.length cn _ rfl) (rest_2 fr tn tm ix lt cm cx ok fo en vo le hv hi he hk hn hs hu da cl sq op ky co nm) rfl (by simp [Value.oneCell']) (fun w HM => msg_mk (x_int HM.kd') (x_int HM.fr') (x_int HM.tn') (x_num HM.tm') (z_num _ _) (z_num _ _) (z_num _ _) (z_num _ _) rfl rfl (z_list _ _ _ _ _) zc zh z_bytes (z_num _ _) (z_num _ _) (z_int _ _) (z_text _ _) (z_int _ _) (z_list _ _ _ _ _)) (by rw [len_msg, len_msg]; exact sum20 k7 k7 k7 k7 qn qn qn qn k7 qf qe qc qh qt qn qn qi qt qi qm) (Nat.zero_le _)
  · exact both_of 3 71 fr tn tm ix lt cm cx ok fo en vo le hv hi he hk hn hs hu da cl sq op ky co nm Ae ce Av cv Al cl' Ad cd An cn 2 find_3 _ _ (part_3 fr tn tm ix lt cm cx ok fo Ae en.length ce Av vo.length cv Al le.length cl' hv hi he hk hn hs hu Ad da.length cd cl sq op (bstr ky) co An nm.length cn _ rfl) (rest_3 fr tn tm ix lt cm cx ok fo en vo le hv hi he hk hn hs hu da cl sq op ky co nm) rfl (by simp [Value.oneCell']) (fun w HM => msg_mk (x_int HM.kd') (x_int HM.fr') (x_int HM.tn') (x_num HM.tm') (x_num HM.ix') (x_num HM.lt') (z_num _ _) (z_num _ _) rfl rfl (z_list _ _ _ _ _) zc zh z_bytes (z_num _ _) (z_num _ _) (z_int _ _) (z_text _ _) (z_int _ _) (z_list _ _ _ _ _)) (by rw [len_msg, len_msg]; exact sum20 k7 k7 k7 k7 k7 k7 qn qn qf k7 qe qc qh qt qn qn qi qt qi qm) (Nat.zero_le _)
  · exact both_of 4 33 fr tn tm ix lt cm cx ok fo en vo le hv hi he hk hn hs hu da cl sq op ky co nm Ae ce Av cv Al cl' Ad cd An cn 3 find_4 _ _ (part_4 fr tn tm ix lt cm cx ok fo Ae en.length ce Av vo.length cv Al le.length cl' hv hi he hk hn hs hu Ad da.length cd cl sq op (bstr ky) co An nm.length cn _ rfl) (rest_4 fr tn tm ix lt cm cx ok fo en vo le hv hi he hk hn hs hu da cl sq op ky co nm) rfl (by simp [Value.oneCell']) (fun w HM => msg_mk (x_int HM.kd') (x_int HM.fr') (x_int HM.tn') (x_num HM.tm') (z_num _ _) (z_num _ _) (z_num _ _) (z_num _ _) rfl rfl (z_list _ _ _ _ _) zc zh z_bytes (z_num _ _) (z_num _ _) (z_int _ _) (z_text _ _) (z_int _ _) (z_list _ _ _ _ _)) (by rw [len_msg, len_msg]; exact sum20 k7 k7 k7 k7 qn qn qn qn k7 qf qe qc qh qt qn qn qi qt qi qm) (Nat.zero_le _)
  · exact both_of 5 159 fr tn tm ix lt cm cx ok fo en vo le hv hi he hk hn hs hu da cl sq op ky co nm Ae ce Av cv Al cl' Ad cd An cn 4 find_5 _ _ (part_5 fr tn tm ix lt cm cx ok fo Ae en.length ce Av vo.length cv Al le.length cl' hv hi he hk hn hs hu Ad da.length cd cl sq op (bstr ky) co An nm.length cn _ rfl) (rest_5 fr tn tm ix lt cm cx ok fo en vo le hv hi he hk hn hs hu da cl sq op ky co nm) rfl (by simp [Value.oneCell']) (fun w HM => msg_mk (x_int HM.kd') (x_int HM.fr') (x_int HM.tn') (x_num HM.tm') (x_num HM.ix') (x_num HM.lt') (x_num HM.cm') (x_num HM.cx') rfl rfl HM.en' zc zh z_bytes (z_num _ _) (z_num _ _) (z_int _ _) (z_text _ _) (z_int _ _) (z_list _ _ _ _ _)) (by rw [len_msg, len_msg]; exact sum20 k7 k7 k7 k7 k7 k7 k7 k7 qf qf k7 qc qh qt qn qn qi qt qi qm) (Nat.zero_le _)
  · exact both_of 6 51 fr tn tm ix lt cm cx ok fo en vo le hv hi he hk hn hs hu da cl sq op ky co nm Ae ce Av cv Al cl' Ad cd An cn 5 find_6 _ _ (part_6 fr tn tm ix lt cm cx ok fo Ae en.length ce Av vo.length cv Al le.length cl' hv hi he hk hn hs hu Ad da.length cd cl sq op (bstr ky) co An nm.length cn _ rfl) (rest_6 fr tn tm ix lt cm cx ok fo en vo le hv hi he hk hn hs hu da cl sq op ky co nm) rfl (by simp [Value.oneCell']) (fun w HM => msg_mk (x_int HM.kd') (x_int HM.fr') (x_int HM.tn') (x_num HM.tm') (x_num HM.ix') (z_num _ _) (z_num _ _) (x_num HM.cx') rfl rfl (z_list _ _ _ _ _) zc zh z_bytes (z_num _ _) (z_num _ _) (z_int _ _) (z_text _ _) (z_int _ _) (z_list _ _ _ _ _)) (by rw [len_msg, len_msg]; exact sum20 k7 k7 k7 k7 k7 qn qn k7 k7 qf qe qc qh qt qn qn qi qt qi qm) (Nat.zero_le _)
  · exact both_of 7 1287 fr tn tm ix lt cm cx ok fo en vo le hv hi he hk hn hs hu da cl sq op ky co nm Ae ce Av cv Al cl' Ad cd An cn 6 find_7 _ _ (part_7 fr tn tm ix lt cm cx ok fo Ae en.length ce Av vo.length cv Al le.length cl' hv hi he hk hn hs hu Ad da.length cd cl sq op (bstr ky) co An nm.length cn _ rfl) (rest_7 fr tn tm ix lt cm cx ok fo en vo le hv hi he hk hn hs hu da cl sq op ky co nm) rfl (by simp [Value.oneCell']) (fun w HM => msg_mk (x_int HM.kd') (x_int HM.fr') (x_int HM.tn') (x_num HM.tm') (x_num HM.ix') (x_num HM.lt') (z_num _ _) (z_num _ _) rfl rfl (z_list _ _ _ _ _) HM.cf' zh HM.da' (z_num _ _) (z_num _ _) (z_int _ _) (z_text _ _) (z_int _ _) (z_list _ _ _ _ _)) (by rw [len_msg, len_msg]; exact sum20 k7 k7 k7 k7 k7 k7 qn qn qf qf qe k7 qh k7 qn qn qi qt qi qm) (Nat.le_refl _)
  · exact both_of 8 1 fr tn tm ix lt cm cx ok fo en vo le hv hi he hk hn hs hu da cl sq op ky co nm Ae ce Av cv Al cl' Ad cd An cn 7 find_8 _ _ (part_8 fr tn tm ix lt cm cx ok fo Ae en.length ce Av vo.length cv Al le.length cl' hv hi he hk hn hs hu Ad da.length cd cl sq op (bstr ky) co An nm.length cn _ rfl) (rest_8 fr tn tm ix lt cm cx ok fo en vo le hv hi he hk hn hs hu da cl sq op ky co nm) rfl (by simp [Value.oneCell']) (fun w HM => msg_mk (x_int HM.kd') (x_int HM.fr') (x_int HM.tn') (x_num HM.tm') (z_num _ _) (z_num _ _) (z_num _ _) (z_num _ _) rfl rfl (z_list _ _ _ _ _) zc zh z_bytes (z_num _ _) (z_num _ _) (z_int _ _) (z_text _ _) (z_int _ _) (z_list _ _ _ _ _)) (by rw [len_msg, len_msg]; exact sum20 k7 k7 k7 k7 qn qn qn qn qf qf qe qc qh qt qn qn qi qt qi qm) (Nat.zero_le _)
  · exact both_of 9 1536 fr tn tm ix lt cm cx ok fo en vo le hv hi he hk hn hs hu da cl sq op ky co nm Ae ce Av cv Al cl' Ad cd An cn 8 find_9 _ _ (part_9 fr tn tm ix lt cm cx ok fo Ae en.length ce Av vo.length cv Al le.length cl' hv hi he hk hn hs hu Ad da.length cd cl sq op (bstr ky) co An nm.length cn _ rfl) (rest_9 fr tn tm ix lt cm cx ok fo en vo le hv hi he hk hn hs hu da cl sq op ky co nm) rfl (by simp [Value.oneCell']) (fun w HM => msg_mk (x_int HM.kd') (x_int HM.fr') (x_int HM.tn') (z_num _ _) (z_num _ _) (z_num _ _) (z_num _ _) (z_num _ _) rfl rfl (z_list _ _ _ _ _) zc HM.hd' HM.da' (z_num _ _) (z_num _ _) (z_int _ _) (z_text _ _) (z_int _ _) (z_list _ _ _ _ _)) (by rw [len_msg, len_msg]; exact sum20 k7 k7 k7 qn qn qn qn qn qf qf qe qc k7 k7 qn qn qi qt qi qm) (Nat.le_refl _)
  · exact both_of 10 544 fr tn tm ix lt cm cx ok fo en vo le hv hi he hk hn hs hu da cl sq op ky co nm Ae ce Av cv Al cl' Ad cd An cn 9 find_10 _ _ (part_10 fr tn tm ix lt cm cx ok fo Ae en.length ce Av vo.length cv Al le.length cl' hv hi he hk hn hs hu Ad da.length cd cl sq op (bstr ky) co An nm.length cn _ rfl) (rest_10 fr tn tm ix lt cm cx ok fo en vo le hv hi he hk hn hs hu da cl sq op ky co nm) rfl (by simp [Value.oneCell']) (fun w HM => msg_mk (x_int HM.kd') (x_int HM.fr') (x_int HM.tn') (z_num _ _) (z_num _ _) (z_num _ _) (z_num _ _) (z_num _ _) rfl rfl (z_list _ _ _ _ _) zc HM.hd' z_bytes (z_num _ _) (z_num _ _) (z_int _ _) (z_text _ _) (z_int _ _) (z_list _ _ _ _ _)) (by rw [len_msg, len_msg]; exact sum20 k7 k7 k7 qn qn qn qn qn k7 qf qe qc k7 qt qn qn qi qt qi qm) (Nat.zero_le _)
  · exact both_of 11 512 fr tn tm ix lt cm cx ok fo en vo le hv hi he hk hn hs hu da cl sq op ky co nm Ae ce Av cv Al cl' Ad cd An cn 10 find_11 _ _ (part_11 fr tn tm ix lt cm cx ok fo Ae en.length ce Av vo.length cv Al le.length cl' hv hi he hk hn hs hu Ad da.length cd cl sq op (bstr ky) co An nm.length cn _ rfl) (rest_11 fr tn tm ix lt cm cx ok fo en vo le hv hi he hk hn hs hu da cl sq op ky co nm) rfl (by simp [Value.oneCell']) (fun w HM => msg_mk (x_int HM.kd') (x_int HM.fr') (x_int HM.tn') (z_num _ _) (z_num _ _) (z_num _ _) (z_num _ _) (z_num _ _) rfl rfl (z_list _ _ _ _ _) zc HM.hd' z_bytes (z_num _ _) (z_num _ _) (z_int _ _) (z_text _ _) (z_int _ _) (z_list _ _ _ _ _)) (by rw [len_msg, len_msg]; exact sum20 k7 k7 k7 qn qn qn qn qn qf qf qe qc k7 qt qn qn qi qt qi qm) (Nat.zero_le _)
  · exact both_of 12 512 fr tn tm ix lt cm cx ok fo en vo le hv hi he hk hn hs hu da cl sq op ky co nm Ae ce Av cv Al cl' Ad cd An cn 11 find_12 _ _ (part_12 fr tn tm ix lt cm cx ok fo Ae en.length ce Av vo.length cv Al le.length cl' hv hi he hk hn hs hu Ad da.length cd cl sq op (bstr ky) co An nm.length cn _ rfl) (rest_12 fr tn tm ix lt cm cx ok fo en vo le hv hi he hk hn hs hu da cl sq op ky co nm) rfl (by simp [Value.oneCell']) (fun w HM => msg_mk (x_int HM.kd') (x_int HM.fr') (x_int HM.tn') (z_num _ _) (z_num _ _) (z_num _ _) (z_num _ _) (z_num _ _) rfl rfl (z_list _ _ _ _ _) zc HM.hd' z_bytes (z_num _ _) (z_num _ _) (z_int _ _) (z_text _ _) (z_int _ _) (z_list _ _ _ _ _)) (by rw [len_msg, len_msg]; exact sum20 k7 k7 k7 qn qn qn qn qn qf qf qe qc k7 qt qn qn qi qt qi qm) (Nat.zero_le _)
  · exact both_of 13 512 fr tn tm ix lt cm cx ok fo en vo le hv hi he hk hn hs hu da cl sq op ky co nm Ae ce Av cv Al cl' Ad cd An cn 12 find_13 _ _ (part_13 fr tn tm ix lt cm cx ok fo Ae en.length ce Av vo.length cv Al le.length cl' hv hi he hk hn hs hu Ad da.length cd cl sq op (bstr ky) co An nm.length cn _ rfl) (rest_13 fr tn tm ix lt cm cx ok fo en vo le hv hi he hk hn hs hu da cl sq op ky co nm) rfl (by simp [Value.oneCell']) (fun w HM => msg_mk (x_int HM.kd') (x_int HM.fr') (x_int HM.tn') (z_num _ _) (z_num _ _) (z_num _ _) (z_num _ _) (z_num _ _) rfl rfl (z_list _ _ _ _ _) zc HM.hd' z_bytes (z_num _ _) (z_num _ _) (z_int _ _) (z_text _ _) (z_int _ _) (z_list _ _ _ _ _)) (by rw [len_msg, len_msg]; exact sum20 k7 k7 k7 qn qn qn qn qn qf qf qe qc k7 qt qn qn qi qt qi qm) (Nat.zero_le _)
  · exact both_of 14 512 fr tn tm ix lt cm cx ok fo en vo le hv hi he hk hn hs hu da cl sq op ky co nm Ae ce Av cv Al cl' Ad cd An cn 13 find_14 _ _ (part_14 fr tn tm ix lt cm cx ok fo Ae en.length ce Av vo.length cv Al le.length cl' hv hi he hk hn hs hu Ad da.length cd cl sq op (bstr ky) co An nm.length cn _ rfl) (rest_14 fr tn tm ix lt cm cx ok fo en vo le hv hi he hk hn hs hu da cl sq op ky co nm) rfl (by simp [Value.oneCell']) (fun w HM => msg_mk (x_int HM.kd') (x_int HM.fr') (x_int HM.tn') (z_num _ _) (z_num _ _) (z_num _ _) (z_num _ _) (z_num _ _) rfl rfl (z_list _ _ _ _ _) zc HM.hd' z_bytes (z_num _ _) (z_num _ _) (z_int _ _) (z_text _ _) (z_int _ _) (z_list _ _ _ _ _)) (by rw [len_msg, len_msg]; exact sum20 k7 k7 k7 qn qn qn qn qn qf qf qe qc k7 qt qn qn qi qt qi qm) (Nat.zero_le _)
  · exact both_of 15 1568 fr tn tm ix lt cm cx ok fo en vo le hv hi he hk hn hs hu da cl sq op ky co nm Ae ce Av cv Al cl' Ad cd An cn 14 find_15 _ _ (part_15 fr tn tm ix lt cm cx ok fo Ae en.length ce Av vo.length cv Al le.length cl' hv hi he hk hn hs hu Ad da.length cd cl sq op (bstr ky) co An nm.length cn _ rfl) (rest_15 fr tn tm ix lt cm cx ok fo en vo le hv hi he hk hn hs hu da cl sq op ky co nm) rfl (by simp [Value.oneCell']) (fun w HM => msg_mk (x_int HM.kd') (x_int HM.fr') (x_int HM.tn') (z_num _ _) (z_num _ _) (z_num _ _) (z_num _ _) (z_num _ _) rfl rfl (z_list _ _ _ _ _) zc HM.hd' HM.da' (z_num _ _) (z_num _ _) (z_int _ _) (z_text _ _) (z_int _ _) (z_list _ _ _ _ _)) (by rw [len_msg, len_msg]; exact sum20 k7 k7 k7 qn qn qn qn qn k7 qf qe qc k7 k7 qn qn qi qt qi qm) (Nat.le_refl _)
  · exact both_of 16 31744 fr tn tm ix lt cm cx ok fo en vo le hv hi he hk hn hs hu da cl sq op ky co nm Ae ce Av cv Al cl' Ad cd An cn 15 find_16 _ _ (part_16 fr tn tm ix lt cm cx ok fo Ae en.length ce Av vo.length cv Al le.length cl' hv hi he hk hn hs hu Ad da.length cd cl sq op (bstr ky) co An nm.length cn _ rfl) (rest_16 fr tn tm ix lt cm cx ok fo en vo le hv hi he hk hn hs hu da cl sq op ky co nm) rfl (by simp [Value.oneCell']) (fun w HM => msg_mk (x_int HM.kd') (x_int HM.fr') (x_int HM.tn') (z_num _ _) (z_num _ _) (z_num _ _) (z_num _ _) (z_num _ _) rfl rfl (z_list _ _ _ _ _) zc zh HM.da' (x_num HM.cl'') (x_num HM.sq') (x_int HM.op') ⟨rfl, HM.ky'.1, HM.ky'.2⟩ (z_int _ _) (z_list _ _ _ _ _)) (by rw [len_msg, len_msg]; exact sum20 k7 k7 k7 qn qn qn qn qn qf qf qe qc qh k7 k7 k7 k7 k7 qi qm) (Nat.le_refl _)
  · exact both_of 17 105488 fr tn tm ix lt cm cx ok fo en vo le hv hi he hk hn hs hu da cl sq op ky co nm Ae ce Av cv Al cl' Ad cd An cn 16 find_17 _ _ (part_17 fr tn tm ix lt cm cx ok fo Ae en.length ce Av vo.length cv Al le.length cl' hv hi he hk hn hs hu Ad da.length cd cl sq op (bstr ky) co An nm.length cn _ rfl) (rest_17 fr tn tm ix lt cm cx ok fo en vo le hv hi he hk hn hs hu da cl sq op ky co nm) rfl (by simp [Value.oneCell']) (fun w HM => msg_mk (x_int HM.kd') (x_int HM.fr') (x_int HM.tn') (z_num _ _) (z_num _ _) (z_num _ _) (z_num _ _) (x_num HM.cx') rfl rfl (z_list _ _ _ _ _) zc zh HM.da' (x_num HM.cl'') (x_num HM.sq') (z_int _ _) (z_text _ _) (x_int HM.co') HM.nm') (by rw [len_msg, len_msg]; exact sum20 k7 k7 k7 qn qn qn qn k7 qf qf qe qc qh k7 k7 k7 qi qt k7 k7) (Nat.le_refl _)
  · exact both_of 18 16 fr tn tm ix lt cm cx ok fo en vo le hv hi he hk hn hs hu da cl sq op ky co nm Ae ce Av cv Al cl' Ad cd An cn 17 find_18 _ _ (part_18 fr tn tm ix lt cm cx ok fo Ae en.length ce Av vo.length cv Al le.length cl' hv hi he hk hn hs hu Ad da.length cd cl sq op (bstr ky) co An nm.length cn _ rfl) (rest_18 fr tn tm ix lt cm cx ok fo en vo le hv hi he hk hn hs hu da cl sq op ky co nm) rfl (by simp [Value.oneCell']) (fun w HM => msg_mk (x_int HM.kd') (x_int HM.fr') (x_int HM.tn') (z_num _ _) (z_num _ _) (z_num _ _) (z_num _ _) (x_num HM.cx') rfl rfl (z_list _ _ _ _ _) zc zh z_bytes (z_num _ _) (z_num _ _) (z_int _ _) (z_text _ _) (z_int _ _) (z_list _ _ _ _ _)) (by rw [len_msg, len_msg]; exact sum20 k7 k7 k7 qn qn qn qn k7 qf qf qe qc qh qt qn qn qi qt qi qm) (Nat.zero_le _)
  · exact both_of 19 16 fr tn tm ix lt cm cx ok fo en vo le hv hi he hk hn hs hu da cl sq op ky co nm Ae ce Av cv Al cl' Ad cd An cn 18 find_19 _ _ (part_19 fr tn tm ix lt cm cx ok fo Ae en.length ce Av vo.length cv Al le.length cl' hv hi he hk hn hs hu Ad da.length cd cl sq op (bstr ky) co An nm.length cn _ rfl) (rest_19 fr tn tm ix lt cm cx ok fo en vo le hv hi he hk hn hs hu da cl sq op ky co nm) rfl (by simp [Value.oneCell']) (fun w HM => msg_mk (x_int HM.kd') (x_int HM.fr') (x_int HM.tn') (z_num _ _) (z_num _ _) (z_num _ _) (z_num _ _) (x_num HM.cx') rfl rfl (z_list _ _ _ _ _) zc zh z_bytes (z_num _ _) (z_num _ _) (z_int _ _) (z_text _ _) (z_int _ _) (z_list _ _ _ _ _)) (by rw [len_msg, len_msg]; exact sum20 k7 k7 k7 qn qn qn qn k7 qf qf qe qc qh qt qn qn qi qt qi qm) (Nat.zero_le _)
  · exact both_none kd hc fr tn tm ix lt cm cx ok fo en vo le hv hi he hk hn hs hu da cl sq op ky co nm Ae ce Av cv Al cl' Ad cd An cn
end Pk
end Go.Proofs.YtdfkapehjmmnoaaGreatDoor
