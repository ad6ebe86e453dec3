/-
  THE WALKS of wire's check and Check. Condition: the library's variable holds what the program's text lays.
  WHAT A KIND USES, looked up; a rest held against nothing. No condition.
-/
import Derived.Test.YtdfkapehjmmnoaaGreatDoorWQ
import Derived.Test.YtdfkapehjmmnoaaGreatDoorWX
import Derived.Laws.StructEq
import Derived.Test.YtdfkapehjmmnoaaGreatDoorWR
namespace Go.Proofs.YtdfkapehjmmnoaaGreatDoor
open _root_.Go.Value renaming int → V, slice → O
open _root_.Go.IntKind renaming i64 → J, u64 → U
section
open Go.RowKit Go.ChangeShapes Go.WideShapes Go.ChangeAt
namespace Pk
open Oc
def eS : Array MapEntry := #[⟨V J 1, V .u32 71, 0⟩, ⟨V J 2, V .u32 33, 1⟩, ⟨V J 3, V .u32 71, 2⟩, ⟨V J 4, V .u32 33, 3⟩, ⟨V J 5, V .u32 159, 4⟩, ⟨V J 6, V .u32 51, 5⟩, ⟨V J 7, V .u32 1287, 6⟩, ⟨V J 8, V .u32 1, 7⟩, ⟨V J 9, V .u32 1536, 8⟩, ⟨V J 10, V .u32 544, 9⟩, ⟨V J 11, V .u32 512, 10⟩, ⟨V J 12, V .u32 512, 11⟩, ⟨V J 13, V .u32 512, 12⟩, ⟨V J 14, V .u32 512, 13⟩, ⟨V J 15, V .u32 1568, 14⟩, ⟨V J 16, V .u32 31744, 15⟩, ⟨V J 17, V .u32 105488, 16⟩, ⟨V J 18, V .u32 16, 17⟩, ⟨V J 19, V .u32 16, 18⟩]
theorem lookup_at (kd : Int) (r : Option (Nat × Value)) (v : Value) (ok : Bool) (hf : ∀ W, (Instr.findKey 33 (V J kd) eS.toList).run Tryz.prog W = .ok r W) (hr : r = some (0, v) ∧ ok = true ∨ (∃ i, r = some (i, v)) ∧ ok = true ∨ r = none ∧ v = V .u32 0 ∧ ok = false)
    (W : World) (b : Nat) (g : W.heap[b]? = some (.map eS 19)) : (Instr.lookup 122 (.map (some b)) (V J kd) true).run Tryz.prog W = .ok (.tuple #[v, .bool ok]) W := by
  have h1 : (getObj b).run Tryz.prog W = .ok (.map eS 19) W := by
    simp only [getObj, Sem.run, g]
  have hck : ∀ W, (Instr.checkKey false 10000 33 (V J kd)).run Tryz.prog W = .ok () W := fun _ => by kernel_rfl
  have hz : ∀ W, (zeroValue 120).run Tryz.prog W = .ok (V .u32 0) W := fun _ => by kernel_rfl
  have he : eS.isEmpty = false := rfl
  unfold Instr.lookup
  simp only [Sem.run_bind, run_underlying Tryz.underlying122, Result.andThen_ok, h1, Sem.run_pure, he, hck, hf]
  rcases hr with ⟨rfl, rfl⟩ | ⟨⟨i, rfl⟩, rfl⟩ | ⟨rfl, rfl, rfl⟩
  · rfl
  · rfl
  · simp only [Sem.run_bind, hz, Result.andThen_ok, Sem.run_pure]
    rfl
theorem find_1 (W : World) : (Instr.findKey 33 (V J 1) eS.toList).run Tryz.prog W = .ok (some (0, V .u32 71)) W := by kernel_rfl
theorem find_2 (W : World) : (Instr.findKey 33 (V J 2) eS.toList).run Tryz.prog W = .ok (some (1, V .u32 33)) W := by kernel_rfl
theorem find_3 (W : World) : (Instr.findKey 33 (V J 3) eS.toList).run Tryz.prog W = .ok (some (2, V .u32 71)) W := by kernel_rfl
theorem find_4 (W : World) : (Instr.findKey 33 (V J 4) eS.toList).run Tryz.prog W = .ok (some (3, V .u32 33)) W := by kernel_rfl
theorem find_5 (W : World) : (Instr.findKey 33 (V J 5) eS.toList).run Tryz.prog W = .ok (some (4, V .u32 159)) W := by kernel_rfl
theorem find_6 (W : World) : (Instr.findKey 33 (V J 6) eS.toList).run Tryz.prog W = .ok (some (5, V .u32 51)) W := by kernel_rfl
theorem find_7 (W : World) : (Instr.findKey 33 (V J 7) eS.toList).run Tryz.prog W = .ok (some (6, V .u32 1287)) W := by kernel_rfl
theorem find_8 (W : World) : (Instr.findKey 33 (V J 8) eS.toList).run Tryz.prog W = .ok (some (7, V .u32 1)) W := by kernel_rfl
theorem find_9 (W : World) : (Instr.findKey 33 (V J 9) eS.toList).run Tryz.prog W = .ok (some (8, V .u32 1536)) W := by kernel_rfl
theorem find_10 (W : World) : (Instr.findKey 33 (V J 10) eS.toList).run Tryz.prog W = .ok (some (9, V .u32 544)) W := by kernel_rfl
theorem find_11 (W : World) : (Instr.findKey 33 (V J 11) eS.toList).run Tryz.prog W = .ok (some (10, V .u32 512)) W := by kernel_rfl
theorem find_12 (W : World) : (Instr.findKey 33 (V J 12) eS.toList).run Tryz.prog W = .ok (some (11, V .u32 512)) W := by kernel_rfl
theorem find_13 (W : World) : (Instr.findKey 33 (V J 13) eS.toList).run Tryz.prog W = .ok (some (12, V .u32 512)) W := by kernel_rfl
theorem find_14 (W : World) : (Instr.findKey 33 (V J 14) eS.toList).run Tryz.prog W = .ok (some (13, V .u32 512)) W := by kernel_rfl
theorem find_15 (W : World) : (Instr.findKey 33 (V J 15) eS.toList).run Tryz.prog W = .ok (some (14, V .u32 1568)) W := by kernel_rfl
theorem find_16 (W : World) : (Instr.findKey 33 (V J 16) eS.toList).run Tryz.prog W = .ok (some (15, V .u32 31744)) W := by kernel_rfl
theorem find_17 (W : World) : (Instr.findKey 33 (V J 17) eS.toList).run Tryz.prog W = .ok (some (16, V .u32 105488)) W := by kernel_rfl
theorem find_18 (W : World) : (Instr.findKey 33 (V J 18) eS.toList).run Tryz.prog W = .ok (some (17, V .u32 16)) W := by kernel_rfl
theorem find_19 (W : World) : (Instr.findKey 33 (V J 19) eS.toList).run Tryz.prog W = .ok (some (18, V .u32 16)) W := by kernel_rfl
theorem find_none (kd : Int) (h : kd < 1 ∨ 19 < kd) (W : World) : (Instr.findKey 33 (V J kd) eS.toList).run Tryz.prog W = .ok none W := by
  have hn : ∀ i : Int, 1 ≤ i → i ≤ 19 → (kd == i) = false := fun i h1 h2 => by simp; omega
  unfold Instr.findKey
  simp only [Sem.run_bind, run_underlying Tryz.underlying33, Result.andThen_ok, eS, Instr.findNow, Instr.sameNow, if_true, hn 1 (by decide) (by decide), hn 2 (by decide) (by decide), hn 3 (by decide) (by decide), hn 4 (by decide) (by decide), hn 5 (by decide) (by decide), hn 6 (by decide) (by decide), hn 7 (by decide) (by decide), hn 8 (by decide) (by decide), hn 9 (by decide) (by decide), hn 10 (by decide) (by decide), hn 11 (by decide) (by decide), hn 12 (by decide) (by decide), hn 13 (by decide) (by decide), hn 14 (by decide) (by decide), hn 15 (by decide) (by decide), hn 16 (by decide) (by decide), hn 17 (by decide) (by decide), hn 18 (by decide) (by decide), hn 19 (by decide) (by decide), Sem.run_pure]
theorem neq_none (w : World) : (binOp .neq 125 (.agg #[V U 0, V U 0, V U 0, V U 0, V U 0, .bool false, .bool false, V J 0, V J 0, V J 0, V U 0, V J 0, V U 0, V J 0, V J 0, V J 0, V .u32 0, V J 0, V U 0, V U 0, V J 0, .string ⟨#[]⟩, V J 0, V J 0]) (.agg #[V U 0, V U 0, V U 0, V U 0, V U 0, .bool false, .bool false, V J 0, V J 0, V J 0, V U 0, V J 0, V U 0, V J 0, V J 0, V J 0, V .u32 0, V J 0, V U 0, V U 0, V J 0, .string ⟨#[]⟩, V J 0, V J 0])).run Tryz.prog w = .ok (.bool false) w := by kernel_rfl
set_option maxRecDepth 100000 in
set_option maxHeartbeats 4000000 in
theorem neq_some (a0 : Int) (a1 : Int) (a2 : Int) (a3 : Int) (a4 : Int) (a5 : Bool) (a6 : Bool) (a7 : Int) (a8 : Int) (a9 : Int) (a10 : Int) (a11 : Int) (a12 : Int) (a13 : Int) (a14 : Int) (a15 : Int) (a16 : Int) (a17 : Int) (a18 : Int) (a19 : Int) (a20 : Int) (a21 : ByteArray) (a22 : Int) (a23 : Int) (h : ¬ (a0 = 0 ∧ a1 = 0 ∧ a2 = 0 ∧ a3 = 0 ∧ a4 = 0 ∧ a5 = false ∧ a6 = false ∧ a7 = 0 ∧ a8 = 0 ∧ a9 = 0 ∧ a10 = 0 ∧ a11 = 0 ∧ a12 = 0 ∧ a13 = 0 ∧ a14 = 0 ∧ a15 = 0 ∧ a16 = 0 ∧ a17 = 0 ∧ a18 = 0 ∧ a19 = 0 ∧ a20 = 0 ∧ a21 = ⟨#[]⟩ ∧ a22 = 0 ∧ a23 = 0)) (w : World) : (binOp .neq 125 (.agg #[V U a0, V U a1, V U a2, V U a3, V U a4, .bool a5, .bool a6, V J a7, V J a8, V J a9, V U a10, V J a11, V U a12, V J a13, V J a14, V J a15, V .u32 a16, V J a17, V U a18, V U a19, V J a20, .string a21, V J a22, V J a23]) (.agg #[V U 0, V U 0, V U 0, V U 0, V U 0, .bool false, .bool false, V J 0, V J 0, V J 0, V U 0, V J 0, V U 0, V J 0, V J 0, V J 0, V .u32 0, V J 0, V U 0, V U 0, V J 0, .string ⟨#[]⟩, V J 0, V J 0])).run Tryz.prog w = .ok (.bool true) w := by
  have hS : Tryz.prog.underlying 125 = some (.struct (Tryz.prog.fieldsOf 125)) := by kernel_rfl
  have hp : Tryz.prog.stoodInHeld 125 = false := by kernel_rfl
  rw [run_neq_struct, show (10000 : Nat) = 9999 + 1 from rfl, run_equalIn_agg w 9999 125 _ _ hS hp]
  simp only [Program.fieldsOf, Tryz.underlying125]
  go_simp
  intro h0 h1 h2 h3 h4 h5 h6 h7 h8 h9 h10 h11 h12 h13 h14 h15 h16 h17 h18 h19 h20 h21 h22 h23
  have h21' : a21 = ⟨#[]⟩ := Classical.byContradiction fun hn => str_ne hn (by rw [h21, ByteArray.toList_eq])
  exact h ⟨h0, h1, h2, h3, h4, h5, h6, h7, h8, h9, h10, h11, h12, h13, h14, h15, h16, h17, h18, h19, h20, h21', h22, h23⟩
end Pk
end
section
open Go.RowKit Go.ChangeShapes Go.WideShapes Go.ChangeAt
namespace Pk
open Oc
theorem ex_lookup {P : Program} {w : World} {o : Oper} {ev : Operand → Value} (t : TypeId) (m x : Operand) (ho : o.op = .lookup t m x true) (u key v : Value) (hm : ev m = u) (hx : ev x = key) (h : (Instr.lookup t u key true).run P w = .ok v w) :
    (execOp ev o).run P w = .ok (.value v) w := by
  unfold execOp
  simp only [ho, hm, hx, Sem.run_bind, h, Result.andThen_ok, Sem.run_pure]
def NoRest (u : Nat) (tm ix lt cm cx : Nat) (ok fo : Bool) (en vo le : Nat) (hv : Nat) (hi : Int) (he : Nat) (hk hn hs : Int) (hu : Nat) (da cl sq : Nat) (op : Int) (ky : ByteArray) (co : Int) (nm : Nat) : Prop := (unI (bits .and .u32 (u : Nat) 1) (tm : Nat)) = 0 ∧ (unI (bits .and .u32 (u : Nat) 2) (ix : Nat)) = 0 ∧ (unI (bits .and .u32 (u : Nat) 4) (lt : Nat)) = 0 ∧ (unI (bits .and .u32 (u : Nat) 8) (cm : Nat)) = 0 ∧ (unI (bits .and .u32 (u : Nat) 16) (cx : Nat)) = 0 ∧ (unB (bits .and .u32 (u : Nat) 32) ok) = false ∧ (unB (bits .and .u32 (u : Nat) 64) fo) = false ∧ (unI (bits .and .u32 (u : Nat) 128) (en : Nat)) = 0 ∧ (unI (bits .and .u32 (u : Nat) 256) (vo : Nat)) = 0 ∧ (unI (bits .and .u32 (u : Nat) 256) (le : Nat)) = 0 ∧ (unI (bits .and .u32 (u : Nat) 512) (hv : Nat)) = 0 ∧ (unI (bits .and .u32 (u : Nat) 512) hi) = 0 ∧ (unI (bits .and .u32 (u : Nat) 512) (he : Nat)) = 0 ∧ (unI (bits .and .u32 (u : Nat) 512) hk) = 0 ∧ (unI (bits .and .u32 (u : Nat) 512) hn) = 0 ∧ (unI (bits .and .u32 (u : Nat) 512) hs) = 0 ∧ (unI (bits .and .u32 (u : Nat) 512) (hu : Nat)) = 0 ∧ (unI (bits .and .u32 (u : Nat) 1024) (da : Nat)) = 0 ∧ (unI (bits .and .u32 (u : Nat) 2048) (cl : Nat)) = 0 ∧ (unI (bits .and .u32 (u : Nat) 4096) (sq : Nat)) = 0 ∧ (unI (bits .and .u32 (u : Nat) 8192) op) = 0 ∧ (unS (bits .and .u32 (u : Nat) 16384) ky) = ⟨#[]⟩ ∧ (unI (bits .and .u32 (u : Nat) 32768) co) = 0 ∧ (unI (bits .and .u32 (u : Nat) 65536) (nm : Nat)) = 0
theorem leftOver_none (kd fr tn : Int) (tm ix lt cm cx : Nat) (ok fo : Bool) (Ae : Option Addr) (en ce : Nat) (Av : Option Addr) (vo cv : Nat) (Al : Option Addr) (le cl' : Nat) (hv : Nat) (hi : Int) (he : Nat) (hk hn hs : Int) (hu : Nat) (Ad : Option Addr) (da cd : Nat) (cl sq : Nat) (op : Int) (ky : ByteArray) (co : Int) (An : Option Addr) (nm cn : Nat) (u : Nat) (w : World) (h : NoRest u tm ix lt cm cx ok fo en vo le hv hi he hk hn hs hu da cl sq op ky co nm) : Calls Tryz.prog 64 #[.agg #[V J kd, V J fr, V J tn, V U tm, V U ix, V U lt, V U cm, V U cx, .bool ok, .bool fo, .slice Ae en ce, .slice Av vo cv, .slice Al le cl', V U hv, V J hi, V U he, V J hk, V J hn, V J hs, V .u32 hu, .slice Ad da cd, V U cl, V U sq, V J op, .string ky, V J co, .slice An nm cn], V .u32 u] w fun e w' => e = .returned (.agg #[V U 0, V U 0, V U 0, V U 0, V U 0, .bool false, .bool false, V J 0, V J 0, V J 0, V U 0, V J 0, V U 0, V J 0, V J 0, V J 0, V .u32 0, V J 0, V U 0, V U 0, V J 0, .string ⟨#[]⟩, V J 0, V J 0]) ∧ Below w.heap.size w w' := by
  have hl := leftOver_any kd fr tn tm ix lt cm cx ok fo Ae en ce Av vo cv Al le cl' hv hi he hk hn hs hu Ad da cd cl sq op ky co An nm cn (u : Nat) w
  obtain ⟨h0, h1, h2, h3, h4, h5, h6, h7, h8, h9, h10, h11, h12, h13, h14, h15, h16, h17, h18, h19, h20, h21, h22, h23⟩ := h
  rw [h0, h1, h2, h3, h4, h5, h6, h7, h8, h9, h10, h11, h12, h13, h14, h15, h16, h17, h18, h19, h20, h21, h22, h23] at hl
  exact hl
theorem leftOver_some (kd fr tn : Int) (tm ix lt cm cx : Nat) (ok fo : Bool) (Ae : Option Addr) (en ce : Nat) (Av : Option Addr) (vo cv : Nat) (Al : Option Addr) (le cl' : Nat) (hv : Nat) (hi : Int) (he : Nat) (hk hn hs : Int) (hu : Nat) (Ad : Option Addr) (da cd : Nat) (cl sq : Nat) (op : Int) (ky : ByteArray) (co : Int) (An : Option Addr) (nm cn : Nat) (u : Nat) (h : ¬ NoRest u tm ix lt cm cx ok fo en vo le hv hi he hk hn hs hu da cl sq op ky co nm) : ∃ (a0 : Int) (a1 : Int) (a2 : Int) (a3 : Int) (a4 : Int) (a5 : Bool) (a6 : Bool) (a7 : Int) (a8 : Int) (a9 : Int) (a10 : Int) (a11 : Int) (a12 : Int) (a13 : Int) (a14 : Int) (a15 : Int) (a16 : Int) (a17 : Int) (a18 : Int) (a19 : Int) (a20 : Int) (a21 : ByteArray) (a22 : Int) (a23 : Int), ¬ (a0 = 0 ∧ a1 = 0 ∧ a2 = 0 ∧ a3 = 0 ∧ a4 = 0 ∧ a5 = false ∧ a6 = false ∧ a7 = 0 ∧ a8 = 0 ∧ a9 = 0 ∧ a10 = 0 ∧ a11 = 0 ∧ a12 = 0 ∧ a13 = 0 ∧ a14 = 0 ∧ a15 = 0 ∧ a16 = 0 ∧ a17 = 0 ∧ a18 = 0 ∧ a19 = 0 ∧ a20 = 0 ∧ a21 = ⟨#[]⟩ ∧ a22 = 0 ∧ a23 = 0) ∧ ∀ w, Calls Tryz.prog 64 #[.agg #[V J kd, V J fr, V J tn, V U tm, V U ix, V U lt, V U cm, V U cx, .bool ok, .bool fo, .slice Ae en ce, .slice Av vo cv, .slice Al le cl', V U hv, V J hi, V U he, V J hk, V J hn, V J hs, V .u32 hu, .slice Ad da cd, V U cl, V U sq, V J op, .string ky, V J co, .slice An nm cn], V .u32 u] w fun e w' => e = .returned (.agg #[V U a0, V U a1, V U a2, V U a3, V U a4, .bool a5, .bool a6, V J a7, V J a8, V J a9, V U a10, V J a11, V U a12, V J a13, V J a14, V J a15, V .u32 a16, V J a17, V U a18, V U a19, V J a20, .string a21, V J a22, V J a23]) ∧ Below w.heap.size w w' :=
  ⟨_, _, _, _, _, _, _, _, _, _, _, _, _, _, _, _, _, _, _, _, _, _, _, _, h, fun w => leftOver_any kd fr tn tm ix lt cm cx ok fo Ae en ce Av vo cv Al le cl' hv hi he hk hn hs hu Ad da cd cl sq op ky co An nm cn (u : Nat) w⟩
set_option maxRecDepth 100000 in
set_option maxHeartbeats 4000000 in
theorem check_yes (kd fr tn : Int) (tm ix lt cm cx : Nat) (ok fo : Bool) (Ae : Option Addr) (en ce : Nat) (Av : Option Addr) (vo cv : Nat) (Al : Option Addr) (le cl' : Nat) (hv : Nat) (hi : Int) (he : Nat) (hk hn hs : Int) (hu : Nat) (Ad : Option Addr) (da cd : Nat) (cl sq : Nat) (op : Int) (ky : ByteArray) (co : Int) (An : Option Addr) (nm cn : Nat) (w : World) (u : Nat) (hlk : ∀ (W : World) (b : Nat), W.heap[b]? = some (.map eS 19) → (Instr.lookup 122 (.map (some b)) (V J kd) true).run Tryz.prog W = .ok (.tuple #[V .u32 u, .bool true]) W) (hz : NoRest u tm ix lt cm cx ok fo en vo le hv hi he hk hn hs hu da cl sq op ky co nm) : Calls Tryz.prog 30 #[.agg #[V J kd, V J fr, V J tn, V U tm, V U ix, V U lt, V U cm, V U cx, .bool ok, .bool fo, .slice Ae en ce, .slice Av vo cv, .slice Al le cl', V U hv, V J hi, V U he, V J hk, V J hn, V J hs, V .u32 hu, .slice Ad da cd, V U cl, V U sq, V J op, .string ky, V J co, .slice An nm cn]] w fun e w' => e = .returned (.nilIface) ∧ Below w.heap.size w w' := by
  have g0 : (w.alloc (.cells #[V J kd, V J fr, V J tn, V U tm, V U ix, V U lt, V U cm, V U cx, .bool ok, .bool fo, .slice Ae en ce, .slice Av vo cv, .slice Al le cl', V U hv, V J hi, V U he, V J hk, V J hn, V J hs, V .u32 hu, .slice Ad da cd, V U cl, V U sq, V J op, .string ky, V J co, .slice An nm cn] 47)).heap[w.heap.size]? = some (.cells #[V J kd, V J fr, V J tn, V U tm, V U ix, V U lt, V U cm, V U cx, .bool ok, .bool fo, .slice Ae en ce, .slice Av vo cv, .slice Al le cl', V U hv, V J hi, V U he, V J hk, V J hn, V J hs, V .u32 hu, .slice Ad da cd, V U cl, V U sq, V J op, .string ky, V J co, .slice An nm cn] 47 (0, 0)) := heap_alloc_new _ _
  have hb0 : Below w.heap.size w (w.alloc (.cells #[V J kd, V J fr, V J tn, V U tm, V U ix, V U lt, V U cm, V U cx, .bool ok, .bool fo, .slice Ae en ce, .slice Av vo cv, .slice Al le cl', V U hv, V J hi, V U he, V J hk, V J hn, V J hs, V .u32 hu, .slice Ad da cd, V U cl, V U sq, V J op, .string ky, V J co, .slice An nm cn] 47)) := (Below.refl _ _).alloc (Nat.le_refl _) _
  have hz0 : (w.alloc (.cells #[V J kd, V J fr, V J tn, V U tm, V U ix, V U lt, V U cm, V U cx, .bool ok, .bool fo, .slice Ae en ce, .slice Av vo cv, .slice Al le cl', V U hv, V J hi, V U he, V J hk, V J hn, V J hs, V .u32 hu, .slice Ad da cd, V U cl, V U sq, V J op, .string ky, V J co, .slice An nm cn] 47)).heap.size = w.heap.size + 1 := by simp
  go_enter Tryz.func30, Tryz.ntmps30
  go_upto_region 1 with fail
  generalize w.alloc (.cells #[V J kd, V J fr, V J tn, V U tm, V U ix, V U lt, V U cm, V U cx, .bool ok, .bool fo, .slice Ae en ce, .slice Av vo cv, .slice Al le cl', V U hv, V J hi, V U he, V J hk, V J hn, V J hs, V .u32 hu, .slice Ad da cd, V U cl, V U sq, V J op, .string ky, V J co, .slice An nm cn] 47) = w0 at *
  have c0 : w0.cell? ⟨w.heap.size, 0, none⟩ = some (V J kd) := by rw [cell_of_row _ w.heap.size 0 _ _ _ g0]; rfl
  have hlt : w.heap.size < w0.heap.size := by omega
  have hk0 : Keeps [] w0 w0.drew := (Keeps.refl _ _).drew
  refine wa_begin (S := fun wx => Keeps [] w0 wx) (by kernel_rfl) hk0 ?_
  refine wa_tk 1 7 (.pointer (some ⟨w.heap.size, 0, none⟩)) (by kernel_rfl) (fun _ _ => by kernel_rfl) hk0 ?_
  refine wa_tk 2 8 (V J kd) (by kernel_rfl) (fun wx hS => ex_load_cell 33 _ rfl ⟨w.heap.size, 0, none⟩ _ (by kernel_rfl) _ ((hS.cell (p := ⟨w.heap.size, 0, none⟩) hlt (by simp)).trans c0) Tryz.underlying33 rfl) hk0 ?_
  refine wa_ready1 0 (by kernel_rfl) (na_call 0 6 63 #[] (fun v w' => v = .map (some w0.drew.heap.size) ∧ w' = w0.drew.alloc (.map eS 19)) (by kernel_rfl) (by kernel_rfl) (by kernel_rfl) (by kernel_rfl) ((used_any w0.drew).mono fun e w' h => ⟨_, h.1, rfl, h.2⟩) ?_)
  rintro v w1 ⟨rfl, rfl⟩
  have hk1 : Keeps [] w0 (w0.drew.alloc (.map eS 19)) := hk0.alloc _
  have gm : (w0.drew.alloc (.map eS 19)).heap[w0.drew.heap.size]? = some (.map eS 19) := heap_alloc_new _ _
  have hl1 := hlk _ _ gm
  refine ⟨hk1, ?_⟩
  refine wa_ready1 3 (by kernel_rfl) (na_make 3 9 (.tuple #[V .u32 u, .bool true]) (w0.drew.alloc (.map eS 19)) (by kernel_rfl) (by kernel_rfl) (by kernel_rfl) (ex_lookup 122 _ _ rfl _ _ _ (by kernel_rfl) (by kernel_rfl) hl1) hk1 ?_)
  refine wa_tk 4 5 (.tuple #[V .u32 u, .bool true]) (by kernel_rfl) (fun _ _ => by kernel_rfl) hk1 ?_
  refine wa_tk 5 10 (V .u32 u) (by kernel_rfl) (fun _ _ => by kernel_rfl) hk1 ?_
  refine wa_tk 6 11 (.bool true) (by kernel_rfl) (fun _ _ => by kernel_rfl) hk1 ?_
  refine wa_tk 7 3 (V .u32 u) (by kernel_rfl) (fun _ _ => by kernel_rfl) hk1 ?_
  refine wa_tk 8 4 (.bool true) (by kernel_rfl) (fun _ _ => by kernel_rfl) hk1 ?_
  refine wa_done (by kernel_rfl) ?_
  simp only [Act.put, List.setIfInBounds_toArray, List.set_cons_zero, List.set_cons_succ]
  have g1 := (hk1.block w.heap.size hlt (by simp)).trans g0
  have HX := Lib.hid (And.intro g1 (And.intro (hb0.trans (hk1.below (by simp) hb0.size)) hb0.size))
  clear g0 g1 hb0 hz0 hk0 hk1 gm hl1 hlk c0
  generalize w0.drew.alloc (.map eS 19) = w1 at *
  go_wp2_with (with_reducible show wpList _ _ _ _ _ _; refine wpList_load_rowg 47 _ rfl w.heap.size rfl (by kernel_rfl) 47 #[V J kd, V J fr, V J tn, V U tm, V U ix, V U lt, V U cm, V U cx, .bool ok, .bool fo, .slice Ae en ce, .slice Av vo cv, .slice Al le cl', V U hv, V J hi, V U he, V J hk, V J hn, V J hs, V .u32 hu, .slice Ad da cd, V U cl, V U sq, V J op, .string ky, V J co, .slice An nm cn] (0, 0) _ HX.out.1 Tryz.underlying47 rfl (by kernel_rfl) ?_)
  refine ((leftOver_none kd fr tn tm ix lt cm cx ok fo Ae en ce Av vo cv Al le cl' hv hi he hk hn hs hu Ad da cd cl sq op ky co An nm cn (u : Nat) _ hz)).mono ?_
  rintro e w2 ⟨rfl, hbl⟩
  have HB := Lib.hid (HX.out.2.1.trans (hbl.mono HX.out.2.1.size))
  clear hbl
  go_wp2_with (with_reducible show wpList _ _ _ _ _ _; refine wpList_bing .neq 125 125 _ _ rfl (.agg #[V U 0, V U 0, V U 0, V U 0, V U 0, .bool false, .bool false, V J 0, V J 0, V J 0, V U 0, V J 0, V U 0, V J 0, V J 0, V J 0, V .u32 0, V J 0, V U 0, V U 0, V J 0, .string ⟨#[]⟩, V J 0, V J 0]) (.agg #[V U 0, V U 0, V U 0, V U 0, V U 0, .bool false, .bool false, V J 0, V J 0, V J 0, V U 0, V J 0, V U 0, V J 0, V J 0, V J 0, V .u32 0, V J 0, V U 0, V U 0, V J 0, .string ⟨#[]⟩, V J 0, V J 0]) (.bool false) rfl rfl (by kernel_rfl) (by kernel_rfl) (neq_none _) ?_)
  go_ret
  exact ⟨rfl, HB.out⟩
set_option maxRecDepth 100000 in
set_option maxHeartbeats 4000000 in
theorem check_rest (kd fr tn : Int) (tm ix lt cm cx : Nat) (ok fo : Bool) (Ae : Option Addr) (en ce : Nat) (Av : Option Addr) (vo cv : Nat) (Al : Option Addr) (le cl' : Nat) (hv : Nat) (hi : Int) (he : Nat) (hk hn hs : Int) (hu : Nat) (Ad : Option Addr) (da cd : Nat) (cl sq : Nat) (op : Int) (ky : ByteArray) (co : Int) (An : Option Addr) (nm cn : Nat) (w : World) (u : Nat) (hlk : ∀ (W : World) (b : Nat), W.heap[b]? = some (.map eS 19) → (Instr.lookup 122 (.map (some b)) (V J kd) true).run Tryz.prog W = .ok (.tuple #[V .u32 u, .bool true]) W) (hz : ¬ NoRest u tm ix lt cm cx ok fo en vo le hv hi he hk hn hs hu da cl sq op ky co nm) : Calls Tryz.prog 30 #[.agg #[V J kd, V J fr, V J tn, V U tm, V U ix, V U lt, V U cm, V U cx, .bool ok, .bool fo, .slice Ae en ce, .slice Av vo cv, .slice Al le cl', V U hv, V J hi, V U he, V J hk, V J hn, V J hs, V .u32 hu, .slice Ad da cd, V U cl, V U sq, V J op, .string ky, V J co, .slice An nm cn]] w fun e w' => e = .returned (.iface 87 (.agg #[V J 2])) ∧ Below w.heap.size w w' := by
  obtain ⟨a0, a1, a2, a3, a4, a5, a6, a7, a8, a9, a10, a11, a12, a13, a14, a15, a16, a17, a18, a19, a20, a21, a22, a23, hz', HR⟩ := leftOver_some kd fr tn tm ix lt cm cx ok fo Ae en ce Av vo cv Al le cl' hv hi he hk hn hs hu Ad da cd cl sq op ky co An nm cn u hz
  have g0 : (w.alloc (.cells #[V J kd, V J fr, V J tn, V U tm, V U ix, V U lt, V U cm, V U cx, .bool ok, .bool fo, .slice Ae en ce, .slice Av vo cv, .slice Al le cl', V U hv, V J hi, V U he, V J hk, V J hn, V J hs, V .u32 hu, .slice Ad da cd, V U cl, V U sq, V J op, .string ky, V J co, .slice An nm cn] 47)).heap[w.heap.size]? = some (.cells #[V J kd, V J fr, V J tn, V U tm, V U ix, V U lt, V U cm, V U cx, .bool ok, .bool fo, .slice Ae en ce, .slice Av vo cv, .slice Al le cl', V U hv, V J hi, V U he, V J hk, V J hn, V J hs, V .u32 hu, .slice Ad da cd, V U cl, V U sq, V J op, .string ky, V J co, .slice An nm cn] 47 (0, 0)) := heap_alloc_new _ _
  have hb0 : Below w.heap.size w (w.alloc (.cells #[V J kd, V J fr, V J tn, V U tm, V U ix, V U lt, V U cm, V U cx, .bool ok, .bool fo, .slice Ae en ce, .slice Av vo cv, .slice Al le cl', V U hv, V J hi, V U he, V J hk, V J hn, V J hs, V .u32 hu, .slice Ad da cd, V U cl, V U sq, V J op, .string ky, V J co, .slice An nm cn] 47)) := (Below.refl _ _).alloc (Nat.le_refl _) _
  have hz0 : (w.alloc (.cells #[V J kd, V J fr, V J tn, V U tm, V U ix, V U lt, V U cm, V U cx, .bool ok, .bool fo, .slice Ae en ce, .slice Av vo cv, .slice Al le cl', V U hv, V J hi, V U he, V J hk, V J hn, V J hs, V .u32 hu, .slice Ad da cd, V U cl, V U sq, V J op, .string ky, V J co, .slice An nm cn] 47)).heap.size = w.heap.size + 1 := by simp
  go_enter Tryz.func30, Tryz.ntmps30
  go_upto_region 1 with fail
  generalize w.alloc (.cells #[V J kd, V J fr, V J tn, V U tm, V U ix, V U lt, V U cm, V U cx, .bool ok, .bool fo, .slice Ae en ce, .slice Av vo cv, .slice Al le cl', V U hv, V J hi, V U he, V J hk, V J hn, V J hs, V .u32 hu, .slice Ad da cd, V U cl, V U sq, V J op, .string ky, V J co, .slice An nm cn] 47) = w0 at *
  have c0 : w0.cell? ⟨w.heap.size, 0, none⟩ = some (V J kd) := by rw [cell_of_row _ w.heap.size 0 _ _ _ g0]; rfl
  have hlt : w.heap.size < w0.heap.size := by omega
  have hk0 : Keeps [] w0 w0.drew := (Keeps.refl _ _).drew
  refine wa_begin (S := fun wx => Keeps [] w0 wx) (by kernel_rfl) hk0 ?_
  refine wa_tk 1 7 (.pointer (some ⟨w.heap.size, 0, none⟩)) (by kernel_rfl) (fun _ _ => by kernel_rfl) hk0 ?_
  refine wa_tk 2 8 (V J kd) (by kernel_rfl) (fun wx hS => ex_load_cell 33 _ rfl ⟨w.heap.size, 0, none⟩ _ (by kernel_rfl) _ ((hS.cell (p := ⟨w.heap.size, 0, none⟩) hlt (by simp)).trans c0) Tryz.underlying33 rfl) hk0 ?_
  refine wa_ready1 0 (by kernel_rfl) (na_call 0 6 63 #[] (fun v w' => v = .map (some w0.drew.heap.size) ∧ w' = w0.drew.alloc (.map eS 19)) (by kernel_rfl) (by kernel_rfl) (by kernel_rfl) (by kernel_rfl) ((used_any w0.drew).mono fun e w' h => ⟨_, h.1, rfl, h.2⟩) ?_)
  rintro v w1 ⟨rfl, rfl⟩
  have hk1 : Keeps [] w0 (w0.drew.alloc (.map eS 19)) := hk0.alloc _
  have gm : (w0.drew.alloc (.map eS 19)).heap[w0.drew.heap.size]? = some (.map eS 19) := heap_alloc_new _ _
  have hl1 := hlk _ _ gm
  refine ⟨hk1, ?_⟩
  refine wa_ready1 3 (by kernel_rfl) (na_make 3 9 (.tuple #[V .u32 u, .bool true]) (w0.drew.alloc (.map eS 19)) (by kernel_rfl) (by kernel_rfl) (by kernel_rfl) (ex_lookup 122 _ _ rfl _ _ _ (by kernel_rfl) (by kernel_rfl) hl1) hk1 ?_)
  refine wa_tk 4 5 (.tuple #[V .u32 u, .bool true]) (by kernel_rfl) (fun _ _ => by kernel_rfl) hk1 ?_
  refine wa_tk 5 10 (V .u32 u) (by kernel_rfl) (fun _ _ => by kernel_rfl) hk1 ?_
  refine wa_tk 6 11 (.bool true) (by kernel_rfl) (fun _ _ => by kernel_rfl) hk1 ?_
  refine wa_tk 7 3 (V .u32 u) (by kernel_rfl) (fun _ _ => by kernel_rfl) hk1 ?_
  refine wa_tk 8 4 (.bool true) (by kernel_rfl) (fun _ _ => by kernel_rfl) hk1 ?_
  refine wa_done (by kernel_rfl) ?_
  simp only [Act.put, List.setIfInBounds_toArray, List.set_cons_zero, List.set_cons_succ]
  have g1 := (hk1.block w.heap.size hlt (by simp)).trans g0
  have HX := Lib.hid (And.intro g1 (And.intro (hb0.trans (hk1.below (by simp) hb0.size)) hb0.size))
  clear g0 g1 hb0 hz0 hk0 hk1 gm hl1 hlk c0
  generalize w0.drew.alloc (.map eS 19) = w1 at *
  go_wp2_with (with_reducible show wpList _ _ _ _ _ _; refine wpList_load_rowg 47 _ rfl w.heap.size rfl (by kernel_rfl) 47 #[V J kd, V J fr, V J tn, V U tm, V U ix, V U lt, V U cm, V U cx, .bool ok, .bool fo, .slice Ae en ce, .slice Av vo cv, .slice Al le cl', V U hv, V J hi, V U he, V J hk, V J hn, V J hs, V .u32 hu, .slice Ad da cd, V U cl, V U sq, V J op, .string ky, V J co, .slice An nm cn] (0, 0) _ HX.out.1 Tryz.underlying47 rfl (by kernel_rfl) ?_)
  refine ((HR _)).mono ?_
  rintro e w2 ⟨rfl, hbl⟩
  have HB := Lib.hid (HX.out.2.1.trans (hbl.mono HX.out.2.1.size))
  clear hbl
  go_wp2_with (with_reducible show wpList _ _ _ _ _ _; refine wpList_bing .neq 125 125 _ _ rfl (.agg #[V U a0, V U a1, V U a2, V U a3, V U a4, .bool a5, .bool a6, V J a7, V J a8, V J a9, V U a10, V J a11, V U a12, V J a13, V J a14, V J a15, V .u32 a16, V J a17, V U a18, V U a19, V J a20, .string a21, V J a22, V J a23]) (.agg #[V U 0, V U 0, V U 0, V U 0, V U 0, .bool false, .bool false, V J 0, V J 0, V J 0, V U 0, V J 0, V U 0, V J 0, V J 0, V J 0, V .u32 0, V J 0, V U 0, V U 0, V J 0, .string ⟨#[]⟩, V J 0, V J 0]) (.bool true) rfl rfl (by kernel_rfl) (by kernel_rfl) (neq_some a0 a1 a2 a3 a4 a5 a6 a7 a8 a9 a10 a11 a12 a13 a14 a15 a16 a17 a18 a19 a20 a21 a22 a23 hz' _) ?_)
  go_ret
  exact ⟨rfl, HB.out⟩
set_option maxRecDepth 100000 in
set_option maxHeartbeats 4000000 in
theorem check_kind (kd fr tn : Int) (tm ix lt cm cx : Nat) (ok fo : Bool) (Ae : Option Addr) (en ce : Nat) (Av : Option Addr) (vo cv : Nat) (Al : Option Addr) (le cl' : Nat) (hv : Nat) (hi : Int) (he : Nat) (hk hn hs : Int) (hu : Nat) (Ad : Option Addr) (da cd : Nat) (cl sq : Nat) (op : Int) (ky : ByteArray) (co : Int) (An : Option Addr) (nm cn : Nat) (w : World) (hlk : ∀ (W : World) (b : Nat), W.heap[b]? = some (.map eS 19) → (Instr.lookup 122 (.map (some b)) (V J kd) true).run Tryz.prog W = .ok (.tuple #[V .u32 0, .bool false]) W) : Calls Tryz.prog 30 #[.agg #[V J kd, V J fr, V J tn, V U tm, V U ix, V U lt, V U cm, V U cx, .bool ok, .bool fo, .slice Ae en ce, .slice Av vo cv, .slice Al le cl', V U hv, V J hi, V U he, V J hk, V J hn, V J hs, V .u32 hu, .slice Ad da cd, V U cl, V U sq, V J op, .string ky, V J co, .slice An nm cn]] w fun e w' => e = .returned (.iface 87 (.agg #[V J 2])) ∧ Below w.heap.size w w' := by
  have g0 : (w.alloc (.cells #[V J kd, V J fr, V J tn, V U tm, V U ix, V U lt, V U cm, V U cx, .bool ok, .bool fo, .slice Ae en ce, .slice Av vo cv, .slice Al le cl', V U hv, V J hi, V U he, V J hk, V J hn, V J hs, V .u32 hu, .slice Ad da cd, V U cl, V U sq, V J op, .string ky, V J co, .slice An nm cn] 47)).heap[w.heap.size]? = some (.cells #[V J kd, V J fr, V J tn, V U tm, V U ix, V U lt, V U cm, V U cx, .bool ok, .bool fo, .slice Ae en ce, .slice Av vo cv, .slice Al le cl', V U hv, V J hi, V U he, V J hk, V J hn, V J hs, V .u32 hu, .slice Ad da cd, V U cl, V U sq, V J op, .string ky, V J co, .slice An nm cn] 47 (0, 0)) := heap_alloc_new _ _
  have hb0 : Below w.heap.size w (w.alloc (.cells #[V J kd, V J fr, V J tn, V U tm, V U ix, V U lt, V U cm, V U cx, .bool ok, .bool fo, .slice Ae en ce, .slice Av vo cv, .slice Al le cl', V U hv, V J hi, V U he, V J hk, V J hn, V J hs, V .u32 hu, .slice Ad da cd, V U cl, V U sq, V J op, .string ky, V J co, .slice An nm cn] 47)) := (Below.refl _ _).alloc (Nat.le_refl _) _
  have hz0 : (w.alloc (.cells #[V J kd, V J fr, V J tn, V U tm, V U ix, V U lt, V U cm, V U cx, .bool ok, .bool fo, .slice Ae en ce, .slice Av vo cv, .slice Al le cl', V U hv, V J hi, V U he, V J hk, V J hn, V J hs, V .u32 hu, .slice Ad da cd, V U cl, V U sq, V J op, .string ky, V J co, .slice An nm cn] 47)).heap.size = w.heap.size + 1 := by simp
  go_enter Tryz.func30, Tryz.ntmps30
  go_upto_region 1 with fail
  generalize w.alloc (.cells #[V J kd, V J fr, V J tn, V U tm, V U ix, V U lt, V U cm, V U cx, .bool ok, .bool fo, .slice Ae en ce, .slice Av vo cv, .slice Al le cl', V U hv, V J hi, V U he, V J hk, V J hn, V J hs, V .u32 hu, .slice Ad da cd, V U cl, V U sq, V J op, .string ky, V J co, .slice An nm cn] 47) = w0 at *
  have c0 : w0.cell? ⟨w.heap.size, 0, none⟩ = some (V J kd) := by rw [cell_of_row _ w.heap.size 0 _ _ _ g0]; rfl
  have hlt : w.heap.size < w0.heap.size := by omega
  have hk0 : Keeps [] w0 w0.drew := (Keeps.refl _ _).drew
  refine wa_begin (S := fun wx => Keeps [] w0 wx) (by kernel_rfl) hk0 ?_
  refine wa_tk 1 7 (.pointer (some ⟨w.heap.size, 0, none⟩)) (by kernel_rfl) (fun _ _ => by kernel_rfl) hk0 ?_
  refine wa_tk 2 8 (V J kd) (by kernel_rfl) (fun wx hS => ex_load_cell 33 _ rfl ⟨w.heap.size, 0, none⟩ _ (by kernel_rfl) _ ((hS.cell (p := ⟨w.heap.size, 0, none⟩) hlt (by simp)).trans c0) Tryz.underlying33 rfl) hk0 ?_
  refine wa_ready1 0 (by kernel_rfl) (na_call 0 6 63 #[] (fun v w' => v = .map (some w0.drew.heap.size) ∧ w' = w0.drew.alloc (.map eS 19)) (by kernel_rfl) (by kernel_rfl) (by kernel_rfl) (by kernel_rfl) ((used_any w0.drew).mono fun e w' h => ⟨_, h.1, rfl, h.2⟩) ?_)
  rintro v w1 ⟨rfl, rfl⟩
  have hk1 : Keeps [] w0 (w0.drew.alloc (.map eS 19)) := hk0.alloc _
  have gm : (w0.drew.alloc (.map eS 19)).heap[w0.drew.heap.size]? = some (.map eS 19) := heap_alloc_new _ _
  have hl1 := hlk _ _ gm
  refine ⟨hk1, ?_⟩
  refine wa_ready1 3 (by kernel_rfl) (na_make 3 9 (.tuple #[V .u32 0, .bool false]) (w0.drew.alloc (.map eS 19)) (by kernel_rfl) (by kernel_rfl) (by kernel_rfl) (ex_lookup 122 _ _ rfl _ _ _ (by kernel_rfl) (by kernel_rfl) hl1) hk1 ?_)
  refine wa_tk 4 5 (.tuple #[V .u32 0, .bool false]) (by kernel_rfl) (fun _ _ => by kernel_rfl) hk1 ?_
  refine wa_tk 5 10 (V .u32 0) (by kernel_rfl) (fun _ _ => by kernel_rfl) hk1 ?_
  refine wa_tk 6 11 (.bool false) (by kernel_rfl) (fun _ _ => by kernel_rfl) hk1 ?_
  refine wa_tk 7 3 (V .u32 0) (by kernel_rfl) (fun _ _ => by kernel_rfl) hk1 ?_
  refine wa_tk 8 4 (.bool false) (by kernel_rfl) (fun _ _ => by kernel_rfl) hk1 ?_
  refine wa_done (by kernel_rfl) ?_
  simp only [Act.put, List.setIfInBounds_toArray, List.set_cons_zero, List.set_cons_succ]
  have g1 := (hk1.block w.heap.size hlt (by simp)).trans g0
  have HX := Lib.hid (And.intro g1 (And.intro (hb0.trans (hk1.below (by simp) hb0.size)) hb0.size))
  clear g0 g1 hb0 hz0 hk0 hk1 gm hl1 hlk c0
  generalize w0.drew.alloc (.map eS 19) = w1 at *
  go_wp2_with fail
  go_ret
  exact ⟨rfl, HX.out.2.1⟩
end Pk
end
end Go.Proofs.YtdfkapehjmmnoaaGreatDoor
