/-
  THE WALKS of pack's readings: structs without lists. Conditions: the reading stands at a place of its bytes.
-/
import Derived.Test.YtjpbinkklhmphaaPD
namespace Go.Proofs.Ytjpbinkklhmphaa
open Go.RowKit Go.ChangeShapes Go.WideShapes Go.ChangeAt
namespace Pk
open Oc
theorem shape_chunkID {w : World} {X : List Nat} {cs : List Value} {a : ChunkID} (h : rID w X cs a) : cs = [.int .u64 ((a.1 : Nat) : Int), .int .i64 (a.2.1), .int .u64 ((a.2.2 : Nat) : Int)] := by
  obtain ⟨_, _, rfl, ha, h⟩ := h
  obtain ⟨rfl, _⟩ := ha
  obtain ⟨_, _, rfl, hb, h⟩ := h
  obtain ⟨rfl, _⟩ := hb
  obtain ⟨rfl, _⟩ := h
  exact rfl
theorem shape_header {w : World} {X : List Nat} {cs : List Value} {a : Header} (h : rHeader w X cs a) : cs = [.int .u64 ((a.1.1 : Nat) : Int), .int .i64 (a.1.2.1), .int .u64 ((a.1.2.2 : Nat) : Int), .int .i64 (a.2.1), .int .i64 (a.2.2.1), .int .i64 (a.2.2.2.1), .int .u32 ((a.2.2.2.2 : Nat) : Int)] := by
  obtain ⟨_, _, rfl, ha, h⟩ := h
  obtain ⟨_, _, rfl, haa, ha⟩ := ha
  obtain ⟨rfl, _⟩ := haa
  obtain ⟨_, _, rfl, hab, ha⟩ := ha
  obtain ⟨rfl, _⟩ := hab
  obtain ⟨rfl, _⟩ := ha
  obtain ⟨_, _, rfl, hb, h⟩ := h
  obtain ⟨rfl, _⟩ := hb
  obtain ⟨_, _, rfl, hc, h⟩ := h
  obtain ⟨rfl, _⟩ := hc
  obtain ⟨_, _, rfl, hd, h⟩ := h
  obtain ⟨rfl, _⟩ := hd
  obtain ⟨rfl, _⟩ := h
  exact rfl
theorem shape_member {w : World} {X : List Nat} {cs : List Value} {a : Member} (h : rMember w X cs a) : cs = [.int .i64 (a.1), .int .i64 (a.2)] := by
  obtain ⟨_, _, rfl, ha, h⟩ := h
  obtain ⟨rfl, _⟩ := ha
  obtain ⟨rfl, _⟩ := h
  exact rfl
theorem shape_conf {w : World} {X : List Nat} {cs : List Value} {a : Conf} (h : rConf w X cs a) : ∃ (A0 : Option Addr) (c0 : Nat), ∃ (A1 : Option Addr) (c1 : Nat), cs = [.slice A0 (a.1).length c0, .slice A1 (a.2).length c1] := by
  obtain ⟨_, _, rfl, ha, h⟩ := h
  obtain ⟨A0, c0, rfl⟩ := ha.val
  obtain ⟨A1, c1, rfl⟩ := h.val
  exact ⟨A0, c0, A1, c1, rfl⟩
theorem shape_layout {w : World} {X : List Nat} {cs : List Value} {a : Map} (h : rMap w X cs a) : ∃ (A0 : Option Addr) (c0 : Nat), cs = [.int .u64 ((a.1 : Nat) : Int), .slice A0 (a.2).length c0] := by
  obtain ⟨_, _, rfl, ha, h⟩ := h
  obtain ⟨rfl, _⟩ := ha
  obtain ⟨A0, c0, rfl⟩ := h.val
  exact ⟨A0, c0, rfl⟩
theorem shape_cmd {w : World} {X : List Nat} {cs : List Value} {a : Cmd} (h : rCmd w X cs a) : ∃ (A0 : Option Addr) (c0 : Nat), cs = [.int .i64 (a.1), .int .u64 ((a.2.1 : Nat) : Int), .int .u64 ((a.2.2.1 : Nat) : Int), .string (bstr (a.2.2.2.1)), .int .i64 (a.2.2.2.2.1), .int .u32 ((a.2.2.2.2.2.1 : Nat) : Int), .int .u64 ((a.2.2.2.2.2.2.1 : Nat) : Int), .int .u64 ((a.2.2.2.2.2.2.2.1 : Nat) : Int), .int .i64 (a.2.2.2.2.2.2.2.2.1), .int .i64 (a.2.2.2.2.2.2.2.2.2.1), .bool (a.2.2.2.2.2.2.2.2.2.2.1), .int .u64 ((a.2.2.2.2.2.2.2.2.2.2.2.1.1 : Nat) : Int), .int .i64 (a.2.2.2.2.2.2.2.2.2.2.2.1.2.1), .int .u64 ((a.2.2.2.2.2.2.2.2.2.2.2.1.2.2 : Nat) : Int), .int .u64 ((a.2.2.2.2.2.2.2.2.2.2.2.2.1 : Nat) : Int), .slice A0 (a.2.2.2.2.2.2.2.2.2.2.2.2.2).length c0] := by
  obtain ⟨_, _, rfl, ha, h⟩ := h
  obtain ⟨rfl, _⟩ := ha
  obtain ⟨_, _, rfl, hb, h⟩ := h
  obtain ⟨rfl, _⟩ := hb
  obtain ⟨_, _, rfl, hc, h⟩ := h
  obtain ⟨rfl, _⟩ := hc
  obtain ⟨_, _, rfl, hd, h⟩ := h
  obtain ⟨rfl, _⟩ := hd
  obtain ⟨_, _, rfl, he, h⟩ := h
  obtain ⟨rfl, _⟩ := he
  obtain ⟨_, _, rfl, hf, h⟩ := h
  obtain ⟨rfl, _⟩ := hf
  obtain ⟨_, _, rfl, hg, h⟩ := h
  obtain ⟨rfl, _⟩ := hg
  obtain ⟨_, _, rfl, hh, h⟩ := h
  obtain ⟨rfl, _⟩ := hh
  obtain ⟨_, _, rfl, hi, h⟩ := h
  obtain ⟨rfl, _⟩ := hi
  obtain ⟨_, _, rfl, hj, h⟩ := h
  obtain ⟨rfl, _⟩ := hj
  obtain ⟨_, _, rfl, hk, h⟩ := h
  obtain rfl := hk
  obtain ⟨_, _, rfl, hl, h⟩ := h
  obtain ⟨_, _, rfl, hla, hl⟩ := hl
  obtain ⟨rfl, _⟩ := hla
  obtain ⟨_, _, rfl, hlb, hl⟩ := hl
  obtain ⟨rfl, _⟩ := hlb
  obtain ⟨rfl, _⟩ := hl
  obtain ⟨_, _, rfl, ha, h⟩ := h
  obtain ⟨rfl, _⟩ := ha
  obtain ⟨A0, c0, rfl⟩ := h.val
  exact ⟨A0, c0, rfl⟩
theorem shape_entry {w : World} {X : List Nat} {cs : List Value} {a : Entry} (h : rEntry w X cs a) : ∃ (A0 : Option Addr) (c0 : Nat), ∃ (A1 : Option Addr) (c1 : Nat), ∃ (A2 : Option Addr) (c2 : Nat), cs = [.int .u64 ((a.1 : Nat) : Int), .int .u64 ((a.2.1 : Nat) : Int), .int .i64 (a.2.2.1), .int .i64 (a.2.2.2.1.1), .int .u64 ((a.2.2.2.1.2.1 : Nat) : Int), .int .u64 ((a.2.2.2.1.2.2.1 : Nat) : Int), .string (bstr (a.2.2.2.1.2.2.2.1)), .int .i64 (a.2.2.2.1.2.2.2.2.1), .int .u32 ((a.2.2.2.1.2.2.2.2.2.1 : Nat) : Int), .int .u64 ((a.2.2.2.1.2.2.2.2.2.2.1 : Nat) : Int), .int .u64 ((a.2.2.2.1.2.2.2.2.2.2.2.1 : Nat) : Int), .int .i64 (a.2.2.2.1.2.2.2.2.2.2.2.2.1), .int .i64 (a.2.2.2.1.2.2.2.2.2.2.2.2.2.1), .bool (a.2.2.2.1.2.2.2.2.2.2.2.2.2.2.1), .int .u64 ((a.2.2.2.1.2.2.2.2.2.2.2.2.2.2.2.1.1 : Nat) : Int), .int .i64 (a.2.2.2.1.2.2.2.2.2.2.2.2.2.2.2.1.2.1), .int .u64 ((a.2.2.2.1.2.2.2.2.2.2.2.2.2.2.2.1.2.2 : Nat) : Int), .int .u64 ((a.2.2.2.1.2.2.2.2.2.2.2.2.2.2.2.2.1 : Nat) : Int), .slice A0 (a.2.2.2.1.2.2.2.2.2.2.2.2.2.2.2.2.2).length c0, .slice A1 (a.2.2.2.2.1).length c1, .slice A2 (a.2.2.2.2.2).length c2] := by
  obtain ⟨_, _, rfl, ha, h⟩ := h
  obtain ⟨rfl, _⟩ := ha
  obtain ⟨_, _, rfl, hb, h⟩ := h
  obtain ⟨rfl, _⟩ := hb
  obtain ⟨_, _, rfl, hc, h⟩ := h
  obtain ⟨rfl, _⟩ := hc
  obtain ⟨_, _, rfl, hd, h⟩ := h
  obtain ⟨_, _, rfl, hda, hd⟩ := hd
  obtain ⟨rfl, _⟩ := hda
  obtain ⟨_, _, rfl, hdb, hd⟩ := hd
  obtain ⟨rfl, _⟩ := hdb
  obtain ⟨_, _, rfl, hdc, hd⟩ := hd
  obtain ⟨rfl, _⟩ := hdc
  obtain ⟨_, _, rfl, hdd, hd⟩ := hd
  obtain ⟨rfl, _⟩ := hdd
  obtain ⟨_, _, rfl, hde, hd⟩ := hd
  obtain ⟨rfl, _⟩ := hde
  obtain ⟨_, _, rfl, hdf, hd⟩ := hd
  obtain ⟨rfl, _⟩ := hdf
  obtain ⟨_, _, rfl, hdg, hd⟩ := hd
  obtain ⟨rfl, _⟩ := hdg
  obtain ⟨_, _, rfl, hdh, hd⟩ := hd
  obtain ⟨rfl, _⟩ := hdh
  obtain ⟨_, _, rfl, hdi, hd⟩ := hd
  obtain ⟨rfl, _⟩ := hdi
  obtain ⟨_, _, rfl, hdj, hd⟩ := hd
  obtain ⟨rfl, _⟩ := hdj
  obtain ⟨_, _, rfl, hdk, hd⟩ := hd
  obtain rfl := hdk
  obtain ⟨_, _, rfl, hdl, hd⟩ := hd
  obtain ⟨_, _, rfl, hdla, hdl⟩ := hdl
  obtain ⟨rfl, _⟩ := hdla
  obtain ⟨_, _, rfl, hdlb, hdl⟩ := hdl
  obtain ⟨rfl, _⟩ := hdlb
  obtain ⟨rfl, _⟩ := hdl
  obtain ⟨_, _, rfl, hda, hd⟩ := hd
  obtain ⟨rfl, _⟩ := hda
  obtain ⟨A0, c0, rfl⟩ := hd.val
  obtain ⟨_, _, rfl, ha, h⟩ := h
  obtain ⟨A1, c1, rfl⟩ := ha.val
  obtain ⟨A2, c2, rfl⟩ := h.val
  exact ⟨A0, c0, A1, c1, A2, c2, rfl⟩
theorem shape_object {w : World} {X : List Nat} {cs : List Value} {a : Object} (h : rObject w X cs a) : ∃ (A0 : Option Addr) (c0 : Nat), cs = [.string (bstr (a.1)), .int .u64 ((a.2.1 : Nat) : Int), .int .i64 (a.2.2.1), .int .u32 ((a.2.2.2.1 : Nat) : Int), .int .i64 (a.2.2.2.2.1), .int .u64 ((a.2.2.2.2.2.1 : Nat) : Int), .slice A0 (a.2.2.2.2.2.2).length c0] := by
  obtain ⟨_, _, rfl, ha, h⟩ := h
  obtain ⟨rfl, _⟩ := ha
  obtain ⟨_, _, rfl, hb, h⟩ := h
  obtain ⟨rfl, _⟩ := hb
  obtain ⟨_, _, rfl, hc, h⟩ := h
  obtain ⟨rfl, _⟩ := hc
  obtain ⟨_, _, rfl, hd, h⟩ := h
  obtain ⟨rfl, _⟩ := hd
  obtain ⟨_, _, rfl, he, h⟩ := h
  obtain ⟨rfl, _⟩ := he
  obtain ⟨_, _, rfl, hf, h⟩ := h
  obtain ⟨rfl, _⟩ := hf
  obtain ⟨A0, c0, rfl⟩ := h.val
  exact ⟨A0, c0, rfl⟩
theorem shape_intent {w : World} {X : List Nat} {cs : List Value} {a : Intent} (h : rIntent w X cs a) : ∃ (A0 : Option Addr) (c0 : Nat), cs = [.string (bstr (a.1.1)), .int .u64 ((a.1.2.1 : Nat) : Int), .int .i64 (a.1.2.2.1), .int .u32 ((a.1.2.2.2.1 : Nat) : Int), .int .i64 (a.1.2.2.2.2.1), .int .u64 ((a.1.2.2.2.2.2.1 : Nat) : Int), .slice A0 (a.1.2.2.2.2.2.2).length c0, .int .u64 ((a.2.1 : Nat) : Int), .int .u64 ((a.2.2 : Nat) : Int)] := by
  obtain ⟨_, _, rfl, ha, h⟩ := h
  obtain ⟨_, _, rfl, haa, ha⟩ := ha
  obtain ⟨rfl, _⟩ := haa
  obtain ⟨_, _, rfl, hab, ha⟩ := ha
  obtain ⟨rfl, _⟩ := hab
  obtain ⟨_, _, rfl, hac, ha⟩ := ha
  obtain ⟨rfl, _⟩ := hac
  obtain ⟨_, _, rfl, had, ha⟩ := ha
  obtain ⟨rfl, _⟩ := had
  obtain ⟨_, _, rfl, hae, ha⟩ := ha
  obtain ⟨rfl, _⟩ := hae
  obtain ⟨_, _, rfl, haf, ha⟩ := ha
  obtain ⟨rfl, _⟩ := haf
  obtain ⟨A0, c0, rfl⟩ := ha.val
  obtain ⟨_, _, rfl, hb, h⟩ := h
  obtain ⟨rfl, _⟩ := hb
  obtain ⟨rfl, _⟩ := h
  exact ⟨A0, c0, rfl⟩
theorem shape_session {w : World} {X : List Nat} {cs : List Value} {a : Session} (h : rSession w X cs a) : cs = [.int .u64 ((a.1 : Nat) : Int), .int .u64 ((a.2.1 : Nat) : Int), .bool (a.2.2.1), .int .u64 ((a.2.2.2.1 : Nat) : Int), .int .i64 (a.2.2.2.2)] := by
  obtain ⟨_, _, rfl, ha, h⟩ := h
  obtain ⟨rfl, _⟩ := ha
  obtain ⟨_, _, rfl, hb, h⟩ := h
  obtain ⟨rfl, _⟩ := hb
  obtain ⟨_, _, rfl, hc, h⟩ := h
  obtain rfl := hc
  obtain ⟨_, _, rfl, hd, h⟩ := h
  obtain ⟨rfl, _⟩ := hd
  obtain ⟨rfl, _⟩ := h
  exact rfl
theorem shape_waste {w : World} {X : List Nat} {cs : List Value} {a : Waste} (h : rWaste w X cs a) : cs = [.int .u64 ((a.1.1 : Nat) : Int), .int .i64 (a.1.2.1), .int .u64 ((a.1.2.2 : Nat) : Int), .int .i64 (a.2)] := by
  obtain ⟨_, _, rfl, ha, h⟩ := h
  obtain ⟨_, _, rfl, haa, ha⟩ := ha
  obtain ⟨rfl, _⟩ := haa
  obtain ⟨_, _, rfl, hab, ha⟩ := ha
  obtain ⟨rfl, _⟩ := hab
  obtain ⟨rfl, _⟩ := ha
  obtain ⟨rfl, _⟩ := h
  exact rfl
theorem shape_meta {w : World} {X : List Nat} {cs : List Value} {a : Meta} (h : rMeta w X cs a) : ∃ (A0 : Option Addr) (c0 : Nat), ∃ (A1 : Option Addr) (c1 : Nat), ∃ (A2 : Option Addr) (c2 : Nat), ∃ (A3 : Option Addr) (c3 : Nat), ∃ (A4 : Option Addr) (c4 : Nat), ∃ (A5 : Option Addr) (c5 : Nat), ∃ (A6 : Option Addr) (c6 : Nat), ∃ (A7 : Option Addr) (c7 : Nat), cs = [.int .i64 (a.1), .int .i64 (a.2.1), .int .i64 (a.2.2.1), .int .u64 ((a.2.2.2.1.1 : Nat) : Int), .slice A0 (a.2.2.2.1.2).length c0, .int .u64 ((a.2.2.2.2.1.1 : Nat) : Int), .slice A1 (a.2.2.2.2.1.2).length c1, .slice A2 (a.2.2.2.2.2.1).length c2, .slice A3 (a.2.2.2.2.2.2.1).length c3, .slice A4 (a.2.2.2.2.2.2.2.1).length c4, .slice A5 (a.2.2.2.2.2.2.2.2.1).length c5, .slice A6 (a.2.2.2.2.2.2.2.2.2.1).length c6, .slice A7 (a.2.2.2.2.2.2.2.2.2.2.1).length c7, .int .u64 ((a.2.2.2.2.2.2.2.2.2.2.2 : Nat) : Int)] := by
  obtain ⟨_, _, rfl, ha, h⟩ := h
  obtain ⟨rfl, _⟩ := ha
  obtain ⟨_, _, rfl, hb, h⟩ := h
  obtain ⟨rfl, _⟩ := hb
  obtain ⟨_, _, rfl, hc, h⟩ := h
  obtain ⟨rfl, _⟩ := hc
  obtain ⟨_, _, rfl, hd, h⟩ := h
  obtain ⟨_, _, rfl, hda, hd⟩ := hd
  obtain ⟨rfl, _⟩ := hda
  obtain ⟨A0, c0, rfl⟩ := hd.val
  obtain ⟨_, _, rfl, he, h⟩ := h
  obtain ⟨_, _, rfl, hea, he⟩ := he
  obtain ⟨rfl, _⟩ := hea
  obtain ⟨A1, c1, rfl⟩ := he.val
  obtain ⟨_, _, rfl, hf, h⟩ := h
  obtain ⟨A2, c2, rfl⟩ := hf.val
  obtain ⟨_, _, rfl, hg, h⟩ := h
  obtain ⟨A3, c3, rfl⟩ := hg.val
  obtain ⟨_, _, rfl, hh, h⟩ := h
  obtain ⟨A4, c4, rfl⟩ := hh.val
  obtain ⟨_, _, rfl, hi, h⟩ := h
  obtain ⟨A5, c5, rfl⟩ := hi.val
  obtain ⟨_, _, rfl, hj, h⟩ := h
  obtain ⟨A6, c6, rfl⟩ := hj.val
  obtain ⟨_, _, rfl, hk, h⟩ := h
  obtain ⟨A7, c7, rfl⟩ := hk.val
  obtain ⟨rfl, _⟩ := h
  exact ⟨A0, c0, A1, c1, A2, c2, A3, c3, A4, c4, A5, c5, A6, c6, A7, c7, rfl⟩
set_option maxRecDepth 100000 in
set_option maxHeartbeats 1000000 in
theorem chunkID_rd (P : Nat) (A : Option Addr) (n cp : Nat) (l : List Nat) (p : Nat) (w : World) (h : In w P A n cp l p) :
    Calls Try.prog 50 #[.pointer (some ⟨P, 0, none⟩)] w (Rds true cID rID P A n cp l p w) := by
  have k0 : Keeps [P] w (w.alloc (.cells #[.int .u64 0, .int .i64 0, .int .u64 0] 29)) := (Keeps.refl _ _).alloc _
  have i0 := h.kept ((Keeps.refl _ _).alloc (.cells #[.int .u64 0, .int .i64 0, .int .u64 0] 29))
  have z0 : w.heap.size < (w.alloc (.cells #[.int .u64 0, .int .i64 0, .int .u64 0] 29)).heap.size := by simp
  have g0 : (w.alloc (.cells #[.int .u64 0, .int .i64 0, .int .u64 0] 29)).heap[w.heap.size]? = some (.cells #[.int .u64 0, .int .i64 0, .int .u64 0] 29 (0, 0)) := heap_alloc_new _ _
  have K0 := Lib.hid (And.intro k0 g0)
  have hz := h.lt
  clear k0 g0 h
  go_enter Try.func50, Try.ntmps50
  go_wp2_with fail
  refine (number_rd P A n cp l p _ i0).mono ?_
  rintro e w1 h1
  rcases h1.num with ⟨a1, q1, hd1, t1, rfl, i1, k1⟩ | ⟨hd1, rfl, k1⟩
  case inr => exact ⟨rfl, Rds.no (cPair_no hd1) rfl (K0.out.1.then k1)⟩
  have D1 := Lib.hid hd1
  have z1 := Nat.lt_of_lt_of_le z0 k1.size
  clear h1 hd1
  go_wp2_with fail
  refine (integer_rd P A n cp l _ _ i1).mono ?_
  rintro e w2 h2
  rcases h2.int with ⟨a2, q2, hd2, t2, rfl, i2, k2⟩ | ⟨hd2, rfl, k2⟩
  case inr => exact ⟨rfl, Rds.no (cPair_no2 D1.out (cPair_no hd2)) rfl ((K0.out.1.then k1).then k2)⟩
  have D2 := Lib.hid hd2
  have z2 := Nat.lt_of_lt_of_le z1 k2.size
  clear h2 hd2
  go_wp2_with fail
  refine (number_rd P A n cp l _ _ i2).mono ?_
  rintro e w3 h3
  rcases h3.num with ⟨a3, q3, hd3, t3, rfl, i3, k3⟩ | ⟨hd3, rfl, k3⟩
  case inr => exact ⟨rfl, Rds.no (cPair_no2 D1.out (cPair_no2 D2.out hd3)) rfl (((K0.out.1.then k1).then k2).then k3)⟩
  have D3 := Lib.hid hd3
  have z3 := Nat.lt_of_lt_of_le z2 k3.size
  clear h3 hd3
  have kA : Keeps [P] (w.alloc (.cells #[.int .u64 0, .int .i64 0, .int .u64 0] 29)) w3 := ((k1.then k2).then k3)
  have hR : w3.heap[w.heap.size]? = some (.cells #[.int .u64 0, .int .i64 0, .int .u64 0] 29 (0, 0)) := (kA.block _ z0 (by simp; omega)).trans K0.out.2
  go_wp2_with (refine wpList_store_row rfl 29 _ _ rfl w.heap.size #[.int .u64 ((a1 : Nat) : Int), .int .i64 a2, .int .u64 ((a3 : Nat) : Int)] rfl rfl 29 #[.int .u64 0, .int .i64 0, .int .u64 0] hR (by kernel_rfl) rfl (by simp [Value.oneCell']) ?_)
  go_wp2_with fail
  have hf : Keeps [w.heap.size] w3 (w3.setRow w.heap.size #[.int .u64 ((a1 : Nat) : Int), .int .i64 a2, .int .u64 ((a3 : Nat) : Int)]) := (Keeps.refl _ _).setRow (.inl (by simp)) _
  have hfr : Fresh rID w (w3.setRow w.heap.size #[.int .u64 ((a1 : Nat) : Int), .int .i64 a2, .int .u64 ((a3 : Nat) : Int)]) [P] #[.int .u64 ((a1 : Nat) : Int), .int .i64 a2, .int .u64 ((a3 : Nat) : Int)].toList (a1, a2, a3) := ((fresh_num _ _ _ t1).pair ((fresh_int _ _ _ t2).pair (fresh_num _ _ _ t3)))
  refine bodyPost_ret (v := .agg #[.int .u64 ((a1 : Nat) : Int), .int .i64 a2, .int .u64 ((a3 : Nat) : Int)]) (results_cell_row Try.results50 _ _ w.heap.size 29 _ (0, 0) _ rfl (setRow_heap _ _ _ _ _ _ hR) Try.underlying29 rfl (by kernel_rfl)) rfl ?_
  exact Rds.yes (cs := #[.int .u64 ((a1 : Nat) : Int), .int .i64 a2, .int .u64 ((a3 : Nat) : Int)].toList) (cPair_mk D1.out (cPair_mk D2.out D3.out)) rfl hfr (i3.other hf hz) (((((K0.out.1.then k1).then k2).then k3)).setRow (.inr (Nat.le_refl _)) _)
set_option maxRecDepth 100000 in
set_option maxHeartbeats 1000000 in
theorem member_rd (P : Nat) (A : Option Addr) (n cp : Nat) (l : List Nat) (p : Nat) (w : World) (h : In w P A n cp l p) :
    Calls Try.prog 70 #[.pointer (some ⟨P, 0, none⟩)] w (Rds true cMember rMember P A n cp l p w) := by
  have k0 : Keeps [P] w (w.alloc (.cells #[.int .i64 0, .int .i64 0] 117)) := (Keeps.refl _ _).alloc _
  have i0 := h.kept ((Keeps.refl _ _).alloc (.cells #[.int .i64 0, .int .i64 0] 117))
  have z0 : w.heap.size < (w.alloc (.cells #[.int .i64 0, .int .i64 0] 117)).heap.size := by simp
  have g0 : (w.alloc (.cells #[.int .i64 0, .int .i64 0] 117)).heap[w.heap.size]? = some (.cells #[.int .i64 0, .int .i64 0] 117 (0, 0)) := heap_alloc_new _ _
  have K0 := Lib.hid (And.intro k0 g0)
  have hz := h.lt
  clear k0 g0 h
  go_enter Try.func70, Try.ntmps70
  go_wp2_with fail
  refine (integer_rd P A n cp l p _ i0).mono ?_
  rintro e w1 h1
  rcases h1.int with ⟨a1, q1, hd1, t1, rfl, i1, k1⟩ | ⟨hd1, rfl, k1⟩
  case inr => exact ⟨rfl, Rds.no (cPair_no hd1) rfl (K0.out.1.then k1)⟩
  have D1 := Lib.hid hd1
  have z1 := Nat.lt_of_lt_of_le z0 k1.size
  clear h1 hd1
  go_wp2_with fail
  refine (integer_rd P A n cp l _ _ i1).mono ?_
  rintro e w2 h2
  rcases h2.int with ⟨a2, q2, hd2, t2, rfl, i2, k2⟩ | ⟨hd2, rfl, k2⟩
  case inr => exact ⟨rfl, Rds.no (cPair_no2 D1.out hd2) rfl ((K0.out.1.then k1).then k2)⟩
  have D2 := Lib.hid hd2
  have z2 := Nat.lt_of_lt_of_le z1 k2.size
  clear h2 hd2
  have kA : Keeps [P] (w.alloc (.cells #[.int .i64 0, .int .i64 0] 117)) w2 := (k1.then k2)
  have hR : w2.heap[w.heap.size]? = some (.cells #[.int .i64 0, .int .i64 0] 117 (0, 0)) := (kA.block _ z0 (by simp; omega)).trans K0.out.2
  go_wp2_with (refine wpList_store_row rfl 117 _ _ rfl w.heap.size #[.int .i64 a1, .int .i64 a2] rfl rfl 117 #[.int .i64 0, .int .i64 0] hR (by kernel_rfl) rfl (by simp [Value.oneCell']) ?_)
  go_wp2_with fail
  have hf : Keeps [w.heap.size] w2 (w2.setRow w.heap.size #[.int .i64 a1, .int .i64 a2]) := (Keeps.refl _ _).setRow (.inl (by simp)) _
  have hfr : Fresh rMember w (w2.setRow w.heap.size #[.int .i64 a1, .int .i64 a2]) [P] #[.int .i64 a1, .int .i64 a2].toList (a1, a2) := ((fresh_int _ _ _ t1).pair (fresh_int _ _ _ t2))
  refine bodyPost_ret (v := .agg #[.int .i64 a1, .int .i64 a2]) (results_cell_row Try.results70 _ _ w.heap.size 117 _ (0, 0) _ rfl (setRow_heap _ _ _ _ _ _ hR) Try.underlying117 rfl (by kernel_rfl)) rfl ?_
  exact Rds.yes (cs := #[.int .i64 a1, .int .i64 a2].toList) (cPair_mk D1.out D2.out) rfl hfr (i2.other hf hz) ((((K0.out.1.then k1).then k2)).setRow (.inr (Nat.le_refl _)) _)
end Pk
end Go.Proofs.Ytjpbinkklhmphaa
