/-
  A MESSAGE AS CELLS: which cells it has, and what they stand for. For any program; no condition.
  MESSAGES AS BYTES, AND AS CELLS: the codec of layer 6's messages, and how values stand for them. For any program; no condition.
-/
import Derived.Test.YtcnoihdfbifgfaaGreatDoorPB
import Derived.Test.YtcnoihdfbifgfaaGreatDoorPE
namespace Go.Proofs.YtcnoihdfbifgfaaGreatDoor
section
open Go.RowKit Go.ChangeShapes Go.WideShapes Go.ChangeAt
namespace Pk
open Oc
abbrev Msg := Int × Int × Int × Nat × Nat × Nat × Nat × Nat × Bool × Bool × List Entry × Conf × Header × List Nat × Nat × Nat × Int × List Nat × Int × List (List Nat)
def cEntries : Cd (List Entry) := cList cEntry
def cNames : Cd (List (List Nat)) := cList cText
/-- a row of bytes is put as a text is -/
def cMsg : Cd Msg := cPair cInt (cPair cInt (cPair cInt (cPair cNum (cPair cNum (cPair cNum (cPair cNum (cPair cNum (cPair cFlag (cPair cFlag (cPair cEntries (cPair cConf (cPair cHeader (cPair cText (cPair cNum (cPair cNum (cPair cInt (cPair cText (cPair cInt cNames))))))))))))))))))
theorem good_entries : Good cEntries := good_list good_entry
theorem good_names : Good cNames := good_list good_text
theorem good_msg : Good cMsg := good_pair good_int (good_pair good_int (good_pair good_int (good_pair good_num (good_pair good_num (good_pair good_num (good_pair good_num (good_pair good_num (good_pair good_flag (good_pair good_flag (good_pair good_entries (good_pair good_conf (good_pair good_header (good_pair good_text (good_pair good_num (good_pair good_num (good_pair good_int (good_pair good_text (good_pair good_int good_names))))))))))))))))))
def rByte : Rp Nat := fun _ _ cs a => cs = [.int .u8 (a : Nat)] ∧ a < 256
theorem rok_byte : Rok rByte 1 := ⟨fun h => by rw [h.1]; rfl, fun h => by rw [h.1]; simp [Value.oneCell'], fun h _ _ _ => h⟩
/-- a slice of bytes -/
def rBytes : Rp (List Nat) := fun w X cs l => rList rByte 1 1 w X cs l ∧ ∃ A c, cs = [.slice A l.length c] ∧ l.length ≤ c
def rNames : Rp (List (List Nat)) := rList rText 1 16
def rMsg : Rp Msg := rPair rInt (rPair rInt (rPair rInt (rPair rNum (rPair rNum (rPair rNum (rPair rNum (rPair rNum (rPair rFlag (rPair rFlag (rPair rEntries (rPair rConf (rPair rHeader (rPair rBytes (rPair rNum (rPair rNum (rPair rInt (rPair rText (rPair rInt rNames))))))))))))))))))
theorem rok_bytes : Rok rBytes 1 := ⟨fun h => (rok_list rok_byte (m := 1)).size h.1, fun h => (rok_list rok_byte (m := 1)).one h.1, fun h hk hY hX => ⟨(rok_list rok_byte).kept h.1 hk hY hX, h.2⟩⟩
theorem rok_names : Rok rNames 1 := rok_list rok_text
theorem rok_msg : Rok rMsg 27 := rok_pair rok_int (rok_pair rok_int (rok_pair rok_int (rok_pair rok_num (rok_pair rok_num (rok_pair rok_num (rok_pair rok_num (rok_pair rok_num (rok_pair rok_flag (rok_pair rok_flag (rok_pair (rok_list rok_entry) (rok_pair rok_conf (rok_pair rok_header (rok_pair rok_bytes (rok_pair rok_num (rok_pair rok_num (rok_pair rok_int (rok_pair rok_text (rok_pair rok_int rok_names))))))))))))))))))
/-- a slice of bytes as layer 1 has it -/
theorem rBytes.bs {w : World} {X : List Nat} {cs : List Value} {l : List Nat} (h : rBytes w X cs l) : ∃ A c, cs = [.slice A l.length c] ∧ Bs w w.heap.size A l.length l ∧ l.length ≤ c := by
  obtain ⟨⟨A, c, rfl, _, _, hc⟩, A', c', he, hcap⟩ := h
  have hcc : l.length ≤ c := by
    injection he with he _
    injection he with _ _ e
    rw [e]
    exact hcap
  refine ⟨A, c, rfl, ⟨rfl, fun x hx => ?_, fun h0 => ?_⟩, hcc⟩
  · obtain ⟨k, hk, rfl⟩ := List.getElem_of_mem hx
    obtain ⟨b, off, _, _, _, hel⟩ := hc (by omega)
    obtain ⟨u, hu, _⟩ := hel k hk
    exact hu.2
  · obtain ⟨b, off, rfl, hb, _, hel⟩ := hc h0
    refine ⟨b, off, rfl, hb, fun k hk => ?_⟩
    obtain ⟨u, hu, hcu⟩ := hel k hk
    have := hcu 0 (.int .u8 (l[k] : Nat)) (by rw [hu.1]; rfl)
    rw [Nat.mul_one, Nat.add_zero] at this
    rw [this, List.getD_eq_getElem?_getD, List.getElem?_eq_getElem hk]
    rfl
theorem ty_bytes : Typed rBytes cText := fun {w X cs l} h => by
  obtain ⟨⟨A, c, _, _, hl, hc⟩, _⟩ := h
  refine ⟨by omega, fun x hx => ?_⟩
  obtain ⟨k, hk, rfl⟩ := List.getElem_of_mem hx
  obtain ⟨b, off, _, _, _, hel⟩ := hc (by omega)
  obtain ⟨u, hu, _⟩ := hel k hk
  exact hu.2
end Pk
end
section
open Go.RowKit Go.ChangeShapes Go.WideShapes Go.ChangeAt
namespace Pk
open Oc
/-- what the cells of a message stand for -/
structure MsgAt (w : World) (X : List Nat) (Ae : Option Addr) (ce : Nat) (Av : Option Addr) (cv : Nat) (Al : Option Addr) (cl' : Nat) (Ad : Option Addr) (cd : Nat) (An : Option Addr) (cn : Nat) (kd fr tn : Int) (tm ix lt cm cx : Nat) (ok fo : Bool) (en : List Entry) (vo le : List Int) (hv : Nat) (hi : Int) (he : Nat) (hk hn hs : Int) (hu : Nat) (da : List Nat) (cl sq : Nat) (op : Int) (ky : List Nat) (co : Int) (nm : List (List Nat)) : Prop where
  en' : rEntries w X [.slice Ae en.length ce] en
  cf' : rConf w X [.slice Av vo.length cv, .slice Al le.length cl'] (vo, le)
  hd' : rHeader w X [.int .u64 (hv : Nat), .int .i64 hi, .int .u64 (he : Nat), .int .i64 hk, .int .i64 hn, .int .i64 hs, .int .u32 (hu : Nat)] ((hv, hi, he), hk, hn, hs, hu)
  da' : rBytes w X [.slice Ad da.length cd] da
  nm' : rNames w X [.slice An nm.length cn] nm
  kd' : inI kd
  fr' : inI fr
  tn' : inI tn
  tm' : tm < 2 ^ 64
  ix' : ix < 2 ^ 64
  lt' : lt < 2 ^ 64
  cm' : cm < 2 ^ 64
  cx' : cx < 2 ^ 64
  cl'' : cl < 2 ^ 64
  sq' : sq < 2 ^ 64
  op' : inI op
  ky' : ky.length ≤ 140737488351232 ∧ ∀ y ∈ ky, y < 256
  co' : inI co
theorem msg_shape {w : World} {X : List Nat} {cs : List Value} {kd fr tn : Int} {tm ix lt cm cx : Nat} {ok fo : Bool} {en : List Entry} {vo le : List Int} {hv : Nat} {hi : Int} {he : Nat} {hk hn hs : Int} {hu : Nat} {da : List Nat} {cl sq : Nat} {op : Int} {ky : List Nat} {co : Int} {nm : List (List Nat)} (h : rMsg w X cs (kd, fr, tn, tm, ix, lt, cm, cx, ok, fo, en, (vo, le), ((hv, hi, he), hk, hn, hs, hu), da, cl, sq, op, ky, co, nm)) :
    ∃ Ae ce Av cv Al cl' Ad cd An cn, cs = [.int .i64 kd, .int .i64 fr, .int .i64 tn, .int .u64 (tm : Nat), .int .u64 (ix : Nat), .int .u64 (lt : Nat), .int .u64 (cm : Nat), .int .u64 (cx : Nat), .bool ok, .bool fo, .slice Ae en.length ce, .slice Av vo.length cv, .slice Al le.length cl', .int .u64 (hv : Nat), .int .i64 hi, .int .u64 (he : Nat), .int .i64 hk, .int .i64 hn, .int .i64 hs, .int .u32 (hu : Nat), .slice Ad da.length cd, .int .u64 (cl : Nat), .int .u64 (sq : Nat), .int .i64 op, .string (bstr ky), .int .i64 co, .slice An nm.length cn] ∧ MsgAt w X Ae ce Av cv Al cl' Ad cd An cn kd fr tn tm ix lt cm cx ok fo en vo le hv hi he hk hn hs hu da cl sq op ky co nm := by
  obtain ⟨_, _, rfl, g0, h⟩ := h
  obtain ⟨_, _, rfl, g1, h⟩ := h
  obtain ⟨_, _, rfl, g2, h⟩ := h
  obtain ⟨_, _, rfl, g3, h⟩ := h
  obtain ⟨_, _, rfl, g4, h⟩ := h
  obtain ⟨_, _, rfl, g5, h⟩ := h
  obtain ⟨_, _, rfl, g6, h⟩ := h
  obtain ⟨_, _, rfl, g7, h⟩ := h
  obtain ⟨_, _, rfl, g8, h⟩ := h
  obtain ⟨_, _, rfl, g9, h⟩ := h
  obtain ⟨_, _, rfl, g10, h⟩ := h
  obtain ⟨_, _, rfl, g11, h⟩ := h
  obtain ⟨_, _, rfl, g12, h⟩ := h
  obtain ⟨_, _, rfl, g13, h⟩ := h
  obtain ⟨_, _, rfl, g14, h⟩ := h
  obtain ⟨_, _, rfl, g15, h⟩ := h
  obtain ⟨_, _, rfl, g16, h⟩ := h
  obtain ⟨_, _, rfl, g17, h⟩ := h
  obtain ⟨_, _, rfl, g18, h⟩ := h
  have g19 := h
  obtain ⟨rfl, b0⟩ := g0
  obtain ⟨rfl, b1⟩ := g1
  obtain ⟨rfl, b2⟩ := g2
  obtain ⟨rfl, b3⟩ := g3
  obtain ⟨rfl, b4⟩ := g4
  obtain ⟨rfl, b5⟩ := g5
  obtain ⟨rfl, b6⟩ := g6
  obtain ⟨rfl, b7⟩ := g7
  obtain rfl := g8
  obtain rfl := g9
  obtain ⟨A10, c10, rfl⟩ := g10.val
  obtain ⟨Av, cv, Al, cl', rfl⟩ := shape_conf g11
  obtain rfl := shape_header g12
  obtain ⟨A13, c13, e13, -⟩ := g13.2
  subst e13
  obtain ⟨rfl, b14⟩ := g14
  obtain ⟨rfl, b15⟩ := g15
  obtain ⟨rfl, b16⟩ := g16
  obtain ⟨rfl, b17⟩ := g17
  obtain ⟨rfl, b18⟩ := g18
  obtain ⟨A19, c19, rfl⟩ := g19.val
  exact ⟨A10, c10, Av, cv, Al, cl', A13, c13, A19, c19, rfl, g10, g11, g12, g13, g19, b0, b1, b2, b3, b4, b5, b6, b7, b14, b15, b16, b17, b18⟩
end Pk
end
end Go.Proofs.YtcnoihdfbifgfaaGreatDoor
