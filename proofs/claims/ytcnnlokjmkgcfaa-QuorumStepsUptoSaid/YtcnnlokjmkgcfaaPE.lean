/-
  THE WALKS of pack's readings: structs without lists. Conditions: the reading stands at a place of its bytes.
  THE WALKS of pack's readings: single fields, chunks' names. Conditions: the reading stands at a place of its bytes.
  THE WALKS of pack's readings, the small ones: numbers, flags, texts. Conditions: the reading stands at a place of its bytes.
-/
import Derived.Test.YtcnnlokjmkgcfaaPB
import Derived.Test.YtcnnlokjmkgcfaaOI
import Derived.Deep.RegionHeld3
namespace Go.Proofs.Ytcnnlokjmkgcfaa
section
section
open Go.RowKit Go.ChangeShapes Go.WideShapes Go.ChangeAt
namespace Pk
open Oc

/-- a thing out of its cells -/
def valOf (g : Bool) (cs : List Value) : Value := if g then .agg cs.toArray else cs.headD undef
def upWith (w : World) (P : Nat) (e : Ending) (w' : World) : Prop := e = .panicked [{ v := .iface 25 (.int .i64 50), recovered := false }] ∧ Keeps [P] w w'
section
variable {α : Type} {g : Bool} {c : Cd α} {r : Rp α} {P : Nat} {A : Option Addr} {n cp : Nat} {l : List Nat} {p q : Nat} {w w' : World} {e : Ending} {a : α} {cs : List Value}
end
/-- what the bytes of a text come to -/
def TextOut (l : List Nat) (p : Nat) (w : World) (e : Ending) (w' : World) : Prop :=
  match cText.dec l p with
  | some (x, q) => GivesAt x q w e w'
  | none => ∃ k : Nat, k ≠ 0 ∧ e = .returned (.tuple #[.slice none 0 0, .int .i64 0, .int .i64 (k : Nat)]) ∧ w = w'
end Pk
end
section
open Go.RowKit Go.ChangeShapes Go.WideShapes Go.ChangeAt
namespace Pk
open Oc
abbrev up50 : Ending := .panicked [{ v := .iface 25 (.int .i64 50), recovered := false }]
section
variable {g : Bool} {P : Nat} {A : Option Addr} {n cp : Nat} {l : List Nat} {p : Nat} {w w' : World} {e : Ending}
end
theorem n32_no {l : List Nat} {p : Nat} (h : cNum.dec l p = none) : cN32.dec l p = none := by
  have h' : nr l p = none := h
  show (match nr l p with | some (v, q) => if v < 2 ^ 32 then some (v, q) else none | none => none) = none
  rw [h']
theorem n32_far {l : List Nat} {p v q : Nat} (h : cNum.dec l p = some (v, q)) (hv : ¬ v < 2 ^ 32) : cN32.dec l p = none := by
  have h' : nr l p = some (v, q) := h
  show (match nr l p with | some (v, q) => if v < 2 ^ 32 then some (v, q) else none | none => none) = none
  rw [h']
  simp only [if_neg hv]
theorem n32_yes {l : List Nat} {p v q : Nat} (h : cNum.dec l p = some (v, q)) (hv : v < 2 ^ 32) : cN32.dec l p = some (v, q) := by
  have h' : nr l p = some (v, q) := h
  show (match nr l p with | some (v, q) => if v < 2 ^ 32 then some (v, q) else none | none => none) = _
  rw [h']
  simp only [if_pos hv]
end Pk
end
end
section
open Go.RowKit Go.ChangeShapes Go.WideShapes Go.ChangeAt
namespace Pk
open Oc
theorem shape_chunkID {w : World} {X : List Nat} {cs : List Value} {a : ChunkID} (h : rID w X cs a) : cs = [.int .u64 ((a.1 : Nat) : Int), .int .i64 (a.2.1), .int .u64 ((a.2.2 : Nat) : Int)] := by
  obtain ⟨_, _, rfl, ha, h⟩ := h
  obtain ⟨rfl, _⟩ := ha
  obtain ⟨_, _, rfl, hb, h⟩ := h
  obtain ⟨rfl, _⟩ := hb
  obtain ⟨rfl, _⟩ := h
  exact rfl
theorem shape_header {w : World} {X : List Nat} {cs : List Value} {a : Header} (h : rHeader w X cs a) : cs = [.int .u64 ((a.1.1 : Nat) : Int), .int .i64 (a.1.2.1), .int .u64 ((a.1.2.2 : Nat) : Int), .int .i64 (a.2.1), .int .i64 (a.2.2.1), .int .i64 (a.2.2.2.1), .int .u32 ((a.2.2.2.2 : Nat) : Int)] := by
  obtain ⟨_, _, rfl, ha, h⟩ := h
  obtain ⟨_, _, rfl, haa, ha⟩ := ha
  obtain ⟨rfl, _⟩ := haa
  obtain ⟨_, _, rfl, hab, ha⟩ := ha
  obtain ⟨rfl, _⟩ := hab
  obtain ⟨rfl, _⟩ := ha
  obtain ⟨_, _, rfl, hb, h⟩ := h
  obtain ⟨rfl, _⟩ := hb
  obtain ⟨_, _, rfl, hc, h⟩ := h
  obtain ⟨rfl, _⟩ := hc
  obtain ⟨_, _, rfl, hd, h⟩ := h
  obtain ⟨rfl, _⟩ := hd
  obtain ⟨rfl, _⟩ := h
  exact rfl
theorem shape_member {w : World} {X : List Nat} {cs : List Value} {a : Member} (h : rMember w X cs a) : cs = [.int .i64 (a.1), .int .i64 (a.2)] := by
  obtain ⟨_, _, rfl, ha, h⟩ := h
  obtain ⟨rfl, _⟩ := ha
  obtain ⟨rfl, _⟩ := h
  exact rfl
theorem shape_conf {w : World} {X : List Nat} {cs : List Value} {a : Conf} (h : rConf w X cs a) : ∃ (A0 : Option Addr) (c0 : Nat), ∃ (A1 : Option Addr) (c1 : Nat), cs = [.slice A0 (a.1).length c0, .slice A1 (a.2).length c1] := by
  obtain ⟨_, _, rfl, ha, h⟩ := h
  obtain ⟨A0, c0, rfl⟩ := ha.val
  obtain ⟨A1, c1, rfl⟩ := h.val
  exact ⟨A0, c0, A1, c1, rfl⟩
theorem shape_layout {w : World} {X : List Nat} {cs : List Value} {a : Map} (h : rMap w X cs a) : ∃ (A0 : Option Addr) (c0 : Nat), cs = [.int .u64 ((a.1 : Nat) : Int), .slice A0 (a.2).length c0] := by
  obtain ⟨_, _, rfl, ha, h⟩ := h
  obtain ⟨rfl, _⟩ := ha
  obtain ⟨A0, c0, rfl⟩ := h.val
  exact ⟨A0, c0, rfl⟩
theorem shape_cmd {w : World} {X : List Nat} {cs : List Value} {a : Cmd} (h : rCmd w X cs a) : ∃ (A0 : Option Addr) (c0 : Nat), cs = [.int .i64 (a.1), .int .u64 ((a.2.1 : Nat) : Int), .int .u64 ((a.2.2.1 : Nat) : Int), .string (bstr (a.2.2.2.1)), .int .i64 (a.2.2.2.2.1), .int .u32 ((a.2.2.2.2.2.1 : Nat) : Int), .int .u64 ((a.2.2.2.2.2.2.1 : Nat) : Int), .int .u64 ((a.2.2.2.2.2.2.2.1 : Nat) : Int), .int .i64 (a.2.2.2.2.2.2.2.2.1), .int .i64 (a.2.2.2.2.2.2.2.2.2.1), .bool (a.2.2.2.2.2.2.2.2.2.2.1), .int .u64 ((a.2.2.2.2.2.2.2.2.2.2.2.1.1 : Nat) : Int), .int .i64 (a.2.2.2.2.2.2.2.2.2.2.2.1.2.1), .int .u64 ((a.2.2.2.2.2.2.2.2.2.2.2.1.2.2 : Nat) : Int), .int .u64 ((a.2.2.2.2.2.2.2.2.2.2.2.2.1 : Nat) : Int), .slice A0 (a.2.2.2.2.2.2.2.2.2.2.2.2.2).length c0] := by
  obtain ⟨_, _, rfl, ha, h⟩ := h
  obtain ⟨rfl, _⟩ := ha
  obtain ⟨_, _, rfl, hb, h⟩ := h
  obtain ⟨rfl, _⟩ := hb
  obtain ⟨_, _, rfl, hc, h⟩ := h
  obtain ⟨rfl, _⟩ := hc
  obtain ⟨_, _, rfl, hd, h⟩ := h
  obtain ⟨rfl, _⟩ := hd
  obtain ⟨_, _, rfl, he, h⟩ := h
  obtain ⟨rfl, _⟩ := he
  obtain ⟨_, _, rfl, hf, h⟩ := h
  obtain ⟨rfl, _⟩ := hf
  obtain ⟨_, _, rfl, hg, h⟩ := h
  obtain ⟨rfl, _⟩ := hg
  obtain ⟨_, _, rfl, hh, h⟩ := h
  obtain ⟨rfl, _⟩ := hh
  obtain ⟨_, _, rfl, hi, h⟩ := h
  obtain ⟨rfl, _⟩ := hi
  obtain ⟨_, _, rfl, hj, h⟩ := h
  obtain ⟨rfl, _⟩ := hj
  obtain ⟨_, _, rfl, hk, h⟩ := h
  obtain rfl := hk
  obtain ⟨_, _, rfl, hl, h⟩ := h
  obtain ⟨_, _, rfl, hla, hl⟩ := hl
  obtain ⟨rfl, _⟩ := hla
  obtain ⟨_, _, rfl, hlb, hl⟩ := hl
  obtain ⟨rfl, _⟩ := hlb
  obtain ⟨rfl, _⟩ := hl
  obtain ⟨_, _, rfl, ha, h⟩ := h
  obtain ⟨rfl, _⟩ := ha
  obtain ⟨A0, c0, rfl⟩ := h.val
  exact ⟨A0, c0, rfl⟩
theorem shape_entry {w : World} {X : List Nat} {cs : List Value} {a : Entry} (h : rEntry w X cs a) : ∃ (A0 : Option Addr) (c0 : Nat), ∃ (A1 : Option Addr) (c1 : Nat), ∃ (A2 : Option Addr) (c2 : Nat), cs = [.int .u64 ((a.1 : Nat) : Int), .int .u64 ((a.2.1 : Nat) : Int), .int .i64 (a.2.2.1), .int .i64 (a.2.2.2.1.1), .int .u64 ((a.2.2.2.1.2.1 : Nat) : Int), .int .u64 ((a.2.2.2.1.2.2.1 : Nat) : Int), .string (bstr (a.2.2.2.1.2.2.2.1)), .int .i64 (a.2.2.2.1.2.2.2.2.1), .int .u32 ((a.2.2.2.1.2.2.2.2.2.1 : Nat) : Int), .int .u64 ((a.2.2.2.1.2.2.2.2.2.2.1 : Nat) : Int), .int .u64 ((a.2.2.2.1.2.2.2.2.2.2.2.1 : Nat) : Int), .int .i64 (a.2.2.2.1.2.2.2.2.2.2.2.2.1), .int .i64 (a.2.2.2.1.2.2.2.2.2.2.2.2.2.1), .bool (a.2.2.2.1.2.2.2.2.2.2.2.2.2.2.1), .int .u64 ((a.2.2.2.1.2.2.2.2.2.2.2.2.2.2.2.1.1 : Nat) : Int), .int .i64 (a.2.2.2.1.2.2.2.2.2.2.2.2.2.2.2.1.2.1), .int .u64 ((a.2.2.2.1.2.2.2.2.2.2.2.2.2.2.2.1.2.2 : Nat) : Int), .int .u64 ((a.2.2.2.1.2.2.2.2.2.2.2.2.2.2.2.2.1 : Nat) : Int), .slice A0 (a.2.2.2.1.2.2.2.2.2.2.2.2.2.2.2.2.2).length c0, .slice A1 (a.2.2.2.2.1).length c1, .slice A2 (a.2.2.2.2.2).length c2] := by
  obtain ⟨_, _, rfl, ha, h⟩ := h
  obtain ⟨rfl, _⟩ := ha
  obtain ⟨_, _, rfl, hb, h⟩ := h
  obtain ⟨rfl, _⟩ := hb
  obtain ⟨_, _, rfl, hc, h⟩ := h
  obtain ⟨rfl, _⟩ := hc
  obtain ⟨_, _, rfl, hd, h⟩ := h
  obtain ⟨_, _, rfl, hda, hd⟩ := hd
  obtain ⟨rfl, _⟩ := hda
  obtain ⟨_, _, rfl, hdb, hd⟩ := hd
  obtain ⟨rfl, _⟩ := hdb
  obtain ⟨_, _, rfl, hdc, hd⟩ := hd
  obtain ⟨rfl, _⟩ := hdc
  obtain ⟨_, _, rfl, hdd, hd⟩ := hd
  obtain ⟨rfl, _⟩ := hdd
  obtain ⟨_, _, rfl, hde, hd⟩ := hd
  obtain ⟨rfl, _⟩ := hde
  obtain ⟨_, _, rfl, hdf, hd⟩ := hd
  obtain ⟨rfl, _⟩ := hdf
  obtain ⟨_, _, rfl, hdg, hd⟩ := hd
  obtain ⟨rfl, _⟩ := hdg
  obtain ⟨_, _, rfl, hdh, hd⟩ := hd
  obtain ⟨rfl, _⟩ := hdh
  obtain ⟨_, _, rfl, hdi, hd⟩ := hd
  obtain ⟨rfl, _⟩ := hdi
  obtain ⟨_, _, rfl, hdj, hd⟩ := hd
  obtain ⟨rfl, _⟩ := hdj
  obtain ⟨_, _, rfl, hdk, hd⟩ := hd
  obtain rfl := hdk
  obtain ⟨_, _, rfl, hdl, hd⟩ := hd
  obtain ⟨_, _, rfl, hdla, hdl⟩ := hdl
  obtain ⟨rfl, _⟩ := hdla
  obtain ⟨_, _, rfl, hdlb, hdl⟩ := hdl
  obtain ⟨rfl, _⟩ := hdlb
  obtain ⟨rfl, _⟩ := hdl
  obtain ⟨_, _, rfl, hda, hd⟩ := hd
  obtain ⟨rfl, _⟩ := hda
  obtain ⟨A0, c0, rfl⟩ := hd.val
  obtain ⟨_, _, rfl, ha, h⟩ := h
  obtain ⟨A1, c1, rfl⟩ := ha.val
  obtain ⟨A2, c2, rfl⟩ := h.val
  exact ⟨A0, c0, A1, c1, A2, c2, rfl⟩
theorem shape_object {w : World} {X : List Nat} {cs : List Value} {a : Object} (h : rObject w X cs a) : ∃ (A0 : Option Addr) (c0 : Nat), cs = [.string (bstr (a.1)), .int .u64 ((a.2.1 : Nat) : Int), .int .i64 (a.2.2.1), .int .u32 ((a.2.2.2.1 : Nat) : Int), .int .i64 (a.2.2.2.2.1), .int .u64 ((a.2.2.2.2.2.1 : Nat) : Int), .slice A0 (a.2.2.2.2.2.2).length c0] := by
  obtain ⟨_, _, rfl, ha, h⟩ := h
  obtain ⟨rfl, _⟩ := ha
  obtain ⟨_, _, rfl, hb, h⟩ := h
  obtain ⟨rfl, _⟩ := hb
  obtain ⟨_, _, rfl, hc, h⟩ := h
  obtain ⟨rfl, _⟩ := hc
  obtain ⟨_, _, rfl, hd, h⟩ := h
  obtain ⟨rfl, _⟩ := hd
  obtain ⟨_, _, rfl, he, h⟩ := h
  obtain ⟨rfl, _⟩ := he
  obtain ⟨_, _, rfl, hf, h⟩ := h
  obtain ⟨rfl, _⟩ := hf
  obtain ⟨A0, c0, rfl⟩ := h.val
  exact ⟨A0, c0, rfl⟩
theorem shape_intent {w : World} {X : List Nat} {cs : List Value} {a : Intent} (h : rIntent w X cs a) : ∃ (A0 : Option Addr) (c0 : Nat), cs = [.string (bstr (a.1.1)), .int .u64 ((a.1.2.1 : Nat) : Int), .int .i64 (a.1.2.2.1), .int .u32 ((a.1.2.2.2.1 : Nat) : Int), .int .i64 (a.1.2.2.2.2.1), .int .u64 ((a.1.2.2.2.2.2.1 : Nat) : Int), .slice A0 (a.1.2.2.2.2.2.2).length c0, .int .u64 ((a.2.1 : Nat) : Int), .int .u64 ((a.2.2 : Nat) : Int)] := by
  obtain ⟨_, _, rfl, ha, h⟩ := h
  obtain ⟨_, _, rfl, haa, ha⟩ := ha
  obtain ⟨rfl, _⟩ := haa
  obtain ⟨_, _, rfl, hab, ha⟩ := ha
  obtain ⟨rfl, _⟩ := hab
  obtain ⟨_, _, rfl, hac, ha⟩ := ha
  obtain ⟨rfl, _⟩ := hac
  obtain ⟨_, _, rfl, had, ha⟩ := ha
  obtain ⟨rfl, _⟩ := had
  obtain ⟨_, _, rfl, hae, ha⟩ := ha
  obtain ⟨rfl, _⟩ := hae
  obtain ⟨_, _, rfl, haf, ha⟩ := ha
  obtain ⟨rfl, _⟩ := haf
  obtain ⟨A0, c0, rfl⟩ := ha.val
  obtain ⟨_, _, rfl, hb, h⟩ := h
  obtain ⟨rfl, _⟩ := hb
  obtain ⟨rfl, _⟩ := h
  exact ⟨A0, c0, rfl⟩
theorem shape_session {w : World} {X : List Nat} {cs : List Value} {a : Session} (h : rSession w X cs a) : cs = [.int .u64 ((a.1 : Nat) : Int), .int .u64 ((a.2.1 : Nat) : Int), .bool (a.2.2.1), .int .u64 ((a.2.2.2.1 : Nat) : Int), .int .i64 (a.2.2.2.2)] := by
  obtain ⟨_, _, rfl, ha, h⟩ := h
  obtain ⟨rfl, _⟩ := ha
  obtain ⟨_, _, rfl, hb, h⟩ := h
  obtain ⟨rfl, _⟩ := hb
  obtain ⟨_, _, rfl, hc, h⟩ := h
  obtain rfl := hc
  obtain ⟨_, _, rfl, hd, h⟩ := h
  obtain ⟨rfl, _⟩ := hd
  obtain ⟨rfl, _⟩ := h
  exact rfl
theorem shape_waste {w : World} {X : List Nat} {cs : List Value} {a : Waste} (h : rWaste w X cs a) : cs = [.int .u64 ((a.1.1 : Nat) : Int), .int .i64 (a.1.2.1), .int .u64 ((a.1.2.2 : Nat) : Int), .int .i64 (a.2)] := by
  obtain ⟨_, _, rfl, ha, h⟩ := h
  obtain ⟨_, _, rfl, haa, ha⟩ := ha
  obtain ⟨rfl, _⟩ := haa
  obtain ⟨_, _, rfl, hab, ha⟩ := ha
  obtain ⟨rfl, _⟩ := hab
  obtain ⟨rfl, _⟩ := ha
  obtain ⟨rfl, _⟩ := h
  exact rfl
theorem shape_meta {w : World} {X : List Nat} {cs : List Value} {a : Meta} (h : rMeta w X cs a) : ∃ (A0 : Option Addr) (c0 : Nat), ∃ (A1 : Option Addr) (c1 : Nat), ∃ (A2 : Option Addr) (c2 : Nat), ∃ (A3 : Option Addr) (c3 : Nat), ∃ (A4 : Option Addr) (c4 : Nat), ∃ (A5 : Option Addr) (c5 : Nat), ∃ (A6 : Option Addr) (c6 : Nat), ∃ (A7 : Option Addr) (c7 : Nat), cs = [.int .i64 (a.1), .int .i64 (a.2.1), .int .i64 (a.2.2.1), .int .u64 ((a.2.2.2.1.1 : Nat) : Int), .slice A0 (a.2.2.2.1.2).length c0, .int .u64 ((a.2.2.2.2.1.1 : Nat) : Int), .slice A1 (a.2.2.2.2.1.2).length c1, .slice A2 (a.2.2.2.2.2.1).length c2, .slice A3 (a.2.2.2.2.2.2.1).length c3, .slice A4 (a.2.2.2.2.2.2.2.1).length c4, .slice A5 (a.2.2.2.2.2.2.2.2.1).length c5, .slice A6 (a.2.2.2.2.2.2.2.2.2.1).length c6, .slice A7 (a.2.2.2.2.2.2.2.2.2.2.1).length c7, .int .u64 ((a.2.2.2.2.2.2.2.2.2.2.2 : Nat) : Int)] := by
  obtain ⟨_, _, rfl, ha, h⟩ := h
  obtain ⟨rfl, _⟩ := ha
  obtain ⟨_, _, rfl, hb, h⟩ := h
  obtain ⟨rfl, _⟩ := hb
  obtain ⟨_, _, rfl, hc, h⟩ := h
  obtain ⟨rfl, _⟩ := hc
  obtain ⟨_, _, rfl, hd, h⟩ := h
  obtain ⟨_, _, rfl, hda, hd⟩ := hd
  obtain ⟨rfl, _⟩ := hda
  obtain ⟨A0, c0, rfl⟩ := hd.val
  obtain ⟨_, _, rfl, he, h⟩ := h
  obtain ⟨_, _, rfl, hea, he⟩ := he
  obtain ⟨rfl, _⟩ := hea
  obtain ⟨A1, c1, rfl⟩ := he.val
  obtain ⟨_, _, rfl, hf, h⟩ := h
  obtain ⟨A2, c2, rfl⟩ := hf.val
  obtain ⟨_, _, rfl, hg, h⟩ := h
  obtain ⟨A3, c3, rfl⟩ := hg.val
  obtain ⟨_, _, rfl, hh, h⟩ := h
  obtain ⟨A4, c4, rfl⟩ := hh.val
  obtain ⟨_, _, rfl, hi, h⟩ := h
  obtain ⟨A5, c5, rfl⟩ := hi.val
  obtain ⟨_, _, rfl, hj, h⟩ := h
  obtain ⟨A6, c6, rfl⟩ := hj.val
  obtain ⟨_, _, rfl, hk, h⟩ := h
  obtain ⟨A7, c7, rfl⟩ := hk.val
  obtain ⟨rfl, _⟩ := h
  exact ⟨A0, c0, A1, c1, A2, c2, A3, c3, A4, c4, A5, c5, A6, c6, A7, c7, rfl⟩
end Pk
end
end Go.Proofs.Ytcnnlokjmkgcfaa
