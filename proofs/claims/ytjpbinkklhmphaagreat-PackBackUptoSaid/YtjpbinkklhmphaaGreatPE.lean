/-
  THE WALKS of pack's readings: structs without lists. Conditions: the reading stands at a place of its bytes.
-/
import Derived.Test.YtjpbinkklhmphaaGreatPD
namespace Go.Proofs.YtjpbinkklhmphaaGreat
open Go.RowKit Go.ChangeShapes Go.WideShapes Go.ChangeAt
namespace Pk
open Oc
theorem shape_chunkID {w : World} {X : List Nat} {cs : List Value} {a : ChunkID} (h : rID w X cs a) : cs = [.int .u64 ((a.1 : Nat) : Int), .int .i64 (a.2.1), .int .u64 ((a.2.2 : Nat) : Int)] := by
  obtain ⟨_, _, rfl, ha, h⟩ := h
  obtain ⟨rfl, _⟩ := ha
  obtain ⟨_, _, rfl, hb, h⟩ := h
  obtain ⟨rfl, _⟩ := hb
  obtain ⟨rfl, _⟩ := h
  exact rfl
theorem shape_member {w : World} {X : List Nat} {cs : List Value} {a : Member} (h : rMember w X cs a) : cs = [.int .i64 (a.1), .int .i64 (a.2)] := by
  obtain ⟨_, _, rfl, ha, h⟩ := h
  obtain ⟨rfl, _⟩ := ha
  obtain ⟨rfl, _⟩ := h
  exact rfl
theorem shape_conf {w : World} {X : List Nat} {cs : List Value} {a : Conf} (h : rConf w X cs a) : ∃ (A0 : Option Addr) (c0 : Nat), ∃ (A1 : Option Addr) (c1 : Nat), cs = [.slice A0 (a.1).length c0, .slice A1 (a.2).length c1] := by
  obtain ⟨_, _, rfl, ha, h⟩ := h
  obtain ⟨A0, c0, rfl⟩ := ha.val
  obtain ⟨A1, c1, rfl⟩ := h.val
  exact ⟨A0, c0, A1, c1, rfl⟩
theorem shape_layout {w : World} {X : List Nat} {cs : List Value} {a : Map} (h : rMap w X cs a) : ∃ (A0 : Option Addr) (c0 : Nat), cs = [.int .u64 ((a.1 : Nat) : Int), .slice A0 (a.2).length c0] := by
  obtain ⟨_, _, rfl, ha, h⟩ := h
  obtain ⟨rfl, _⟩ := ha
  obtain ⟨A0, c0, rfl⟩ := h.val
  exact ⟨A0, c0, rfl⟩
theorem shape_cmd {w : World} {X : List Nat} {cs : List Value} {a : Cmd} (h : rCmd w X cs a) : ∃ (A0 : Option Addr) (c0 : Nat), cs = [.int .i64 (a.1), .int .u64 ((a.2.1 : Nat) : Int), .int .u64 ((a.2.2.1 : Nat) : Int), .string (bstr (a.2.2.2.1)), .int .i64 (a.2.2.2.2.1), .int .u32 ((a.2.2.2.2.2.1 : Nat) : Int), .int .u64 ((a.2.2.2.2.2.2.1 : Nat) : Int), .int .u64 ((a.2.2.2.2.2.2.2.1 : Nat) : Int), .int .i64 (a.2.2.2.2.2.2.2.2.1), .int .i64 (a.2.2.2.2.2.2.2.2.2.1), .bool (a.2.2.2.2.2.2.2.2.2.2.1), .int .u64 ((a.2.2.2.2.2.2.2.2.2.2.2.1.1 : Nat) : Int), .int .i64 (a.2.2.2.2.2.2.2.2.2.2.2.1.2.1), .int .u64 ((a.2.2.2.2.2.2.2.2.2.2.2.1.2.2 : Nat) : Int), .int .u64 ((a.2.2.2.2.2.2.2.2.2.2.2.2.1 : Nat) : Int), .slice A0 (a.2.2.2.2.2.2.2.2.2.2.2.2.2).length c0] := by
  obtain ⟨_, _, rfl, ha, h⟩ := h
  obtain ⟨rfl, _⟩ := ha
  obtain ⟨_, _, rfl, hb, h⟩ := h
  obtain ⟨rfl, _⟩ := hb
  obtain ⟨_, _, rfl, hc, h⟩ := h
  obtain ⟨rfl, _⟩ := hc
  obtain ⟨_, _, rfl, hd, h⟩ := h
  obtain ⟨rfl, _⟩ := hd
  obtain ⟨_, _, rfl, he, h⟩ := h
  obtain ⟨rfl, _⟩ := he
  obtain ⟨_, _, rfl, hf, h⟩ := h
  obtain ⟨rfl, _⟩ := hf
  obtain ⟨_, _, rfl, hg, h⟩ := h
  obtain ⟨rfl, _⟩ := hg
  obtain ⟨_, _, rfl, hh, h⟩ := h
  obtain ⟨rfl, _⟩ := hh
  obtain ⟨_, _, rfl, hi, h⟩ := h
  obtain ⟨rfl, _⟩ := hi
  obtain ⟨_, _, rfl, hj, h⟩ := h
  obtain ⟨rfl, _⟩ := hj
  obtain ⟨_, _, rfl, hk, h⟩ := h
  obtain rfl := hk
  obtain ⟨_, _, rfl, hl, h⟩ := h
  obtain ⟨_, _, rfl, hla, hl⟩ := hl
  obtain ⟨rfl, _⟩ := hla
  obtain ⟨_, _, rfl, hlb, hl⟩ := hl
  obtain ⟨rfl, _⟩ := hlb
  obtain ⟨rfl, _⟩ := hl
  obtain ⟨_, _, rfl, ha, h⟩ := h
  obtain ⟨rfl, _⟩ := ha
  obtain ⟨A0, c0, rfl⟩ := h.val
  exact ⟨A0, c0, rfl⟩
theorem shape_entry {w : World} {X : List Nat} {cs : List Value} {a : Entry} (h : rEntry w X cs a) : ∃ (A0 : Option Addr) (c0 : Nat), ∃ (A1 : Option Addr) (c1 : Nat), ∃ (A2 : Option Addr) (c2 : Nat), cs = [.int .u64 ((a.1 : Nat) : Int), .int .u64 ((a.2.1 : Nat) : Int), .int .i64 (a.2.2.1), .int .i64 (a.2.2.2.1.1), .int .u64 ((a.2.2.2.1.2.1 : Nat) : Int), .int .u64 ((a.2.2.2.1.2.2.1 : Nat) : Int), .string (bstr (a.2.2.2.1.2.2.2.1)), .int .i64 (a.2.2.2.1.2.2.2.2.1), .int .u32 ((a.2.2.2.1.2.2.2.2.2.1 : Nat) : Int), .int .u64 ((a.2.2.2.1.2.2.2.2.2.2.1 : Nat) : Int), .int .u64 ((a.2.2.2.1.2.2.2.2.2.2.2.1 : Nat) : Int), .int .i64 (a.2.2.2.1.2.2.2.2.2.2.2.2.1), .int .i64 (a.2.2.2.1.2.2.2.2.2.2.2.2.2.1), .bool (a.2.2.2.1.2.2.2.2.2.2.2.2.2.2.1), .int .u64 ((a.2.2.2.1.2.2.2.2.2.2.2.2.2.2.2.1.1 : Nat) : Int), .int .i64 (a.2.2.2.1.2.2.2.2.2.2.2.2.2.2.2.1.2.1), .int .u64 ((a.2.2.2.1.2.2.2.2.2.2.2.2.2.2.2.1.2.2 : Nat) : Int), .int .u64 ((a.2.2.2.1.2.2.2.2.2.2.2.2.2.2.2.2.1 : Nat) : Int), .slice A0 (a.2.2.2.1.2.2.2.2.2.2.2.2.2.2.2.2.2).length c0, .slice A1 (a.2.2.2.2.1).length c1, .slice A2 (a.2.2.2.2.2).length c2] := by
  obtain ⟨_, _, rfl, ha, h⟩ := h
  obtain ⟨rfl, _⟩ := ha
  obtain ⟨_, _, rfl, hb, h⟩ := h
  obtain ⟨rfl, _⟩ := hb
  obtain ⟨_, _, rfl, hc, h⟩ := h
  obtain ⟨rfl, _⟩ := hc
  obtain ⟨_, _, rfl, hd, h⟩ := h
  obtain ⟨_, _, rfl, hda, hd⟩ := hd
  obtain ⟨rfl, _⟩ := hda
  obtain ⟨_, _, rfl, hdb, hd⟩ := hd
  obtain ⟨rfl, _⟩ := hdb
  obtain ⟨_, _, rfl, hdc, hd⟩ := hd
  obtain ⟨rfl, _⟩ := hdc
  obtain ⟨_, _, rfl, hdd, hd⟩ := hd
  obtain ⟨rfl, _⟩ := hdd
  obtain ⟨_, _, rfl, hde, hd⟩ := hd
  obtain ⟨rfl, _⟩ := hde
  obtain ⟨_, _, rfl, hdf, hd⟩ := hd
  obtain ⟨rfl, _⟩ := hdf
  obtain ⟨_, _, rfl, hdg, hd⟩ := hd
  obtain ⟨rfl, _⟩ := hdg
  obtain ⟨_, _, rfl, hdh, hd⟩ := hd
  obtain ⟨rfl, _⟩ := hdh
  obtain ⟨_, _, rfl, hdi, hd⟩ := hd
  obtain ⟨rfl, _⟩ := hdi
  obtain ⟨_, _, rfl, hdj, hd⟩ := hd
  obtain ⟨rfl, _⟩ := hdj
  obtain ⟨_, _, rfl, hdk, hd⟩ := hd
  obtain rfl := hdk
  obtain ⟨_, _, rfl, hdl, hd⟩ := hd
  obtain ⟨_, _, rfl, hdla, hdl⟩ := hdl
  obtain ⟨rfl, _⟩ := hdla
  obtain ⟨_, _, rfl, hdlb, hdl⟩ := hdl
  obtain ⟨rfl, _⟩ := hdlb
  obtain ⟨rfl, _⟩ := hdl
  obtain ⟨_, _, rfl, hda, hd⟩ := hd
  obtain ⟨rfl, _⟩ := hda
  obtain ⟨A0, c0, rfl⟩ := hd.val
  obtain ⟨_, _, rfl, ha, h⟩ := h
  obtain ⟨A1, c1, rfl⟩ := ha.val
  obtain ⟨A2, c2, rfl⟩ := h.val
  exact ⟨A0, c0, A1, c1, A2, c2, rfl⟩
theorem shape_object {w : World} {X : List Nat} {cs : List Value} {a : Object} (h : rObject w X cs a) : ∃ (A0 : Option Addr) (c0 : Nat), cs = [.string (bstr (a.1)), .int .u64 ((a.2.1 : Nat) : Int), .int .i64 (a.2.2.1), .int .u32 ((a.2.2.2.1 : Nat) : Int), .int .i64 (a.2.2.2.2.1), .int .u64 ((a.2.2.2.2.2.1 : Nat) : Int), .slice A0 (a.2.2.2.2.2.2).length c0] := by
  obtain ⟨_, _, rfl, ha, h⟩ := h
  obtain ⟨rfl, _⟩ := ha
  obtain ⟨_, _, rfl, hb, h⟩ := h
  obtain ⟨rfl, _⟩ := hb
  obtain ⟨_, _, rfl, hc, h⟩ := h
  obtain ⟨rfl, _⟩ := hc
  obtain ⟨_, _, rfl, hd, h⟩ := h
  obtain ⟨rfl, _⟩ := hd
  obtain ⟨_, _, rfl, he, h⟩ := h
  obtain ⟨rfl, _⟩ := he
  obtain ⟨_, _, rfl, hf, h⟩ := h
  obtain ⟨rfl, _⟩ := hf
  obtain ⟨A0, c0, rfl⟩ := h.val
  exact ⟨A0, c0, rfl⟩
theorem shape_intent {w : World} {X : List Nat} {cs : List Value} {a : Intent} (h : rIntent w X cs a) : ∃ (A0 : Option Addr) (c0 : Nat), cs = [.string (bstr (a.1.1)), .int .u64 ((a.1.2.1 : Nat) : Int), .int .i64 (a.1.2.2.1), .int .u32 ((a.1.2.2.2.1 : Nat) : Int), .int .i64 (a.1.2.2.2.2.1), .int .u64 ((a.1.2.2.2.2.2.1 : Nat) : Int), .slice A0 (a.1.2.2.2.2.2.2).length c0, .int .u64 ((a.2.1 : Nat) : Int), .int .u64 ((a.2.2 : Nat) : Int)] := by
  obtain ⟨_, _, rfl, ha, h⟩ := h
  obtain ⟨_, _, rfl, haa, ha⟩ := ha
  obtain ⟨rfl, _⟩ := haa
  obtain ⟨_, _, rfl, hab, ha⟩ := ha
  obtain ⟨rfl, _⟩ := hab
  obtain ⟨_, _, rfl, hac, ha⟩ := ha
  obtain ⟨rfl, _⟩ := hac
  obtain ⟨_, _, rfl, had, ha⟩ := ha
  obtain ⟨rfl, _⟩ := had
  obtain ⟨_, _, rfl, hae, ha⟩ := ha
  obtain ⟨rfl, _⟩ := hae
  obtain ⟨_, _, rfl, haf, ha⟩ := ha
  obtain ⟨rfl, _⟩ := haf
  obtain ⟨A0, c0, rfl⟩ := ha.val
  obtain ⟨_, _, rfl, hb, h⟩ := h
  obtain ⟨rfl, _⟩ := hb
  obtain ⟨rfl, _⟩ := h
  exact ⟨A0, c0, rfl⟩
theorem shape_session {w : World} {X : List Nat} {cs : List Value} {a : Session} (h : rSession w X cs a) : cs = [.int .u64 ((a.1 : Nat) : Int), .int .u64 ((a.2.1 : Nat) : Int), .bool (a.2.2.1), .int .u64 ((a.2.2.2.1 : Nat) : Int), .int .i64 (a.2.2.2.2)] := by
  obtain ⟨_, _, rfl, ha, h⟩ := h
  obtain ⟨rfl, _⟩ := ha
  obtain ⟨_, _, rfl, hb, h⟩ := h
  obtain ⟨rfl, _⟩ := hb
  obtain ⟨_, _, rfl, hc, h⟩ := h
  obtain rfl := hc
  obtain ⟨_, _, rfl, hd, h⟩ := h
  obtain ⟨rfl, _⟩ := hd
  obtain ⟨rfl, _⟩ := h
  exact rfl
theorem shape_waste {w : World} {X : List Nat} {cs : List Value} {a : Waste} (h : rWaste w X cs a) : cs = [.int .u64 ((a.1.1 : Nat) : Int), .int .i64 (a.1.2.1), .int .u64 ((a.1.2.2 : Nat) : Int), .int .i64 (a.2)] := by
  obtain ⟨_, _, rfl, ha, h⟩ := h
  obtain ⟨_, _, rfl, haa, ha⟩ := ha
  obtain ⟨rfl, _⟩ := haa
  obtain ⟨_, _, rfl, hab, ha⟩ := ha
  obtain ⟨rfl, _⟩ := hab
  obtain ⟨rfl, _⟩ := ha
  obtain ⟨rfl, _⟩ := h
  exact rfl
theorem shape_meta {w : World} {X : List Nat} {cs : List Value} {a : Meta} (h : rMeta w X cs a) : ∃ (A0 : Option Addr) (c0 : Nat), ∃ (A1 : Option Addr) (c1 : Nat), ∃ (A2 : Option Addr) (c2 : Nat), ∃ (A3 : Option Addr) (c3 : Nat), ∃ (A4 : Option Addr) (c4 : Nat), ∃ (A5 : Option Addr) (c5 : Nat), ∃ (A6 : Option Addr) (c6 : Nat), ∃ (A7 : Option Addr) (c7 : Nat), cs = [.int .i64 (a.1), .int .i64 (a.2.1), .int .i64 (a.2.2.1), .int .u64 ((a.2.2.2.1.1 : Nat) : Int), .slice A0 (a.2.2.2.1.2).length c0, .int .u64 ((a.2.2.2.2.1.1 : Nat) : Int), .slice A1 (a.2.2.2.2.1.2).length c1, .slice A2 (a.2.2.2.2.2.1).length c2, .slice A3 (a.2.2.2.2.2.2.1).length c3, .slice A4 (a.2.2.2.2.2.2.2.1).length c4, .slice A5 (a.2.2.2.2.2.2.2.2.1).length c5, .slice A6 (a.2.2.2.2.2.2.2.2.2.1).length c6, .slice A7 (a.2.2.2.2.2.2.2.2.2.2.1).length c7, .int .u64 ((a.2.2.2.2.2.2.2.2.2.2.2 : Nat) : Int)] := by
  obtain ⟨_, _, rfl, ha, h⟩ := h
  obtain ⟨rfl, _⟩ := ha
  obtain ⟨_, _, rfl, hb, h⟩ := h
  obtain ⟨rfl, _⟩ := hb
  obtain ⟨_, _, rfl, hc, h⟩ := h
  obtain ⟨rfl, _⟩ := hc
  obtain ⟨_, _, rfl, hd, h⟩ := h
  obtain ⟨_, _, rfl, hda, hd⟩ := hd
  obtain ⟨rfl, _⟩ := hda
  obtain ⟨A0, c0, rfl⟩ := hd.val
  obtain ⟨_, _, rfl, he, h⟩ := h
  obtain ⟨_, _, rfl, hea, he⟩ := he
  obtain ⟨rfl, _⟩ := hea
  obtain ⟨A1, c1, rfl⟩ := he.val
  obtain ⟨_, _, rfl, hf, h⟩ := h
  obtain ⟨A2, c2, rfl⟩ := hf.val
  obtain ⟨_, _, rfl, hg, h⟩ := h
  obtain ⟨A3, c3, rfl⟩ := hg.val
  obtain ⟨_, _, rfl, hh, h⟩ := h
  obtain ⟨A4, c4, rfl⟩ := hh.val
  obtain ⟨_, _, rfl, hi, h⟩ := h
  obtain ⟨A5, c5, rfl⟩ := hi.val
  obtain ⟨_, _, rfl, hj, h⟩ := h
  obtain ⟨A6, c6, rfl⟩ := hj.val
  obtain ⟨_, _, rfl, hk, h⟩ := h
  obtain ⟨A7, c7, rfl⟩ := hk.val
  obtain ⟨rfl, _⟩ := h
  exact ⟨A0, c0, A1, c1, A2, c2, A3, c3, A4, c4, A5, c5, A6, c6, A7, c7, rfl⟩
set_option maxRecDepth 100000 in
set_option maxHeartbeats 1000000 in
theorem chunkID_rd (P : Nat) (A : Option Addr) (n cp : Nat) (l : List Nat) (p : Nat) (w : World) (h : In w P A n cp l p) :
    Calls Tryz.prog 70 #[.pointer (some ⟨P, 0, none⟩)] w (Rds true cID rID P A n cp l p w) := by
  have k0 : Keeps [P] w (w.alloc (.cells #[.int .u64 0, .int .i64 0, .int .u64 0] 25)) := (Keeps.refl _ _).alloc _
  have i0 := h.kept ((Keeps.refl _ _).alloc (.cells #[.int .u64 0, .int .i64 0, .int .u64 0] 25))
  have z0 : w.heap.size < (w.alloc (.cells #[.int .u64 0, .int .i64 0, .int .u64 0] 25)).heap.size := by simp
  have g0 : (w.alloc (.cells #[.int .u64 0, .int .i64 0, .int .u64 0] 25)).heap[w.heap.size]? = some (.cells #[.int .u64 0, .int .i64 0, .int .u64 0] 25 (0, 0)) := heap_alloc_new _ _
  have K0 := Lib.hid (And.intro k0 g0)
  have hz := h.lt
  clear k0 g0 h
  go_enter Tryz.func70, Tryz.ntmps70
  go_wp2_with fail
  refine (number_rd P A n cp l p _ i0).mono ?_
  rintro e w1 h1
  rcases h1.num with ⟨a1, q1, hd1, t1, rfl, i1, k1⟩ | ⟨hd1, rfl, k1⟩
  case inr => exact ⟨rfl, Rds.no (cPair_no hd1) rfl (K0.out.1.then k1)⟩
  have D1 := Lib.hid hd1
  have z1 := Nat.lt_of_lt_of_le z0 k1.size
  clear h1 hd1
  go_wp2_with fail
  refine (integer_rd P A n cp l _ _ i1).mono ?_
  rintro e w2 h2
  rcases h2.int with ⟨a2, q2, hd2, t2, rfl, i2, k2⟩ | ⟨hd2, rfl, k2⟩
  case inr => exact ⟨rfl, Rds.no (cPair_no2 D1.out (cPair_no hd2)) rfl ((K0.out.1.then k1).then k2)⟩
  have D2 := Lib.hid hd2
  have z2 := Nat.lt_of_lt_of_le z1 k2.size
  clear h2 hd2
  go_wp2_with fail
  refine (number_rd P A n cp l _ _ i2).mono ?_
  rintro e w3 h3
  rcases h3.num with ⟨a3, q3, hd3, t3, rfl, i3, k3⟩ | ⟨hd3, rfl, k3⟩
  case inr => exact ⟨rfl, Rds.no (cPair_no2 D1.out (cPair_no2 D2.out hd3)) rfl (((K0.out.1.then k1).then k2).then k3)⟩
  have D3 := Lib.hid hd3
  have z3 := Nat.lt_of_lt_of_le z2 k3.size
  clear h3 hd3
  have kA : Keeps [P] (w.alloc (.cells #[.int .u64 0, .int .i64 0, .int .u64 0] 25)) w3 := ((k1.then k2).then k3)
  have hR : w3.heap[w.heap.size]? = some (.cells #[.int .u64 0, .int .i64 0, .int .u64 0] 25 (0, 0)) := (kA.block _ z0 (by simp; omega)).trans K0.out.2
  go_wp2_with (refine wpList_store_row rfl 25 _ _ rfl w.heap.size #[.int .u64 ((a1 : Nat) : Int), .int .i64 a2, .int .u64 ((a3 : Nat) : Int)] rfl rfl 25 #[.int .u64 0, .int .i64 0, .int .u64 0] hR (by kernel_rfl) rfl (by simp [Value.oneCell']) ?_)
  go_wp2_with fail
  have hf : Keeps [w.heap.size] w3 (w3.setRow w.heap.size #[.int .u64 ((a1 : Nat) : Int), .int .i64 a2, .int .u64 ((a3 : Nat) : Int)]) := (Keeps.refl _ _).setRow (.inl (by simp)) _
  have hfr : Fresh rID w (w3.setRow w.heap.size #[.int .u64 ((a1 : Nat) : Int), .int .i64 a2, .int .u64 ((a3 : Nat) : Int)]) [P] #[.int .u64 ((a1 : Nat) : Int), .int .i64 a2, .int .u64 ((a3 : Nat) : Int)].toList (a1, a2, a3) := ((fresh_num _ _ _ t1).pair ((fresh_int _ _ _ t2).pair (fresh_num _ _ _ t3)))
  refine bodyPost_ret (v := .agg #[.int .u64 ((a1 : Nat) : Int), .int .i64 a2, .int .u64 ((a3 : Nat) : Int)]) (results_cell_row Tryz.results70 _ _ w.heap.size 25 _ (0, 0) _ rfl (setRow_heap _ _ _ _ _ _ hR) Tryz.underlying25 rfl (by kernel_rfl)) rfl ?_
  exact Rds.yes (cs := #[.int .u64 ((a1 : Nat) : Int), .int .i64 a2, .int .u64 ((a3 : Nat) : Int)].toList) (cPair_mk D1.out (cPair_mk D2.out D3.out)) rfl hfr (i3.other hf hz) (((((K0.out.1.then k1).then k2).then k3)).setRow (.inr (Nat.le_refl _)) _)
set_option maxRecDepth 100000 in
set_option maxHeartbeats 1000000 in
theorem member_rd (P : Nat) (A : Option Addr) (n cp : Nat) (l : List Nat) (p : Nat) (w : World) (h : In w P A n cp l p) :
    Calls Tryz.prog 88 #[.pointer (some ⟨P, 0, none⟩)] w (Rds true cMember rMember P A n cp l p w) := by
  have k0 : Keeps [P] w (w.alloc (.cells #[.int .i64 0, .int .i64 0] 163)) := (Keeps.refl _ _).alloc _
  have i0 := h.kept ((Keeps.refl _ _).alloc (.cells #[.int .i64 0, .int .i64 0] 163))
  have z0 : w.heap.size < (w.alloc (.cells #[.int .i64 0, .int .i64 0] 163)).heap.size := by simp
  have g0 : (w.alloc (.cells #[.int .i64 0, .int .i64 0] 163)).heap[w.heap.size]? = some (.cells #[.int .i64 0, .int .i64 0] 163 (0, 0)) := heap_alloc_new _ _
  have K0 := Lib.hid (And.intro k0 g0)
  have hz := h.lt
  clear k0 g0 h
  go_enter Tryz.func88, Tryz.ntmps88
  go_wp2_with fail
  refine (integer_rd P A n cp l p _ i0).mono ?_
  rintro e w1 h1
  rcases h1.int with ⟨a1, q1, hd1, t1, rfl, i1, k1⟩ | ⟨hd1, rfl, k1⟩
  case inr => exact ⟨rfl, Rds.no (cPair_no hd1) rfl (K0.out.1.then k1)⟩
  have D1 := Lib.hid hd1
  have z1 := Nat.lt_of_lt_of_le z0 k1.size
  clear h1 hd1
  go_wp2_with fail
  refine (integer_rd P A n cp l _ _ i1).mono ?_
  rintro e w2 h2
  rcases h2.int with ⟨a2, q2, hd2, t2, rfl, i2, k2⟩ | ⟨hd2, rfl, k2⟩
  case inr => exact ⟨rfl, Rds.no (cPair_no2 D1.out hd2) rfl ((K0.out.1.then k1).then k2)⟩
  have D2 := Lib.hid hd2
  have z2 := Nat.lt_of_lt_of_le z1 k2.size
  clear h2 hd2
  have kA : Keeps [P] (w.alloc (.cells #[.int .i64 0, .int .i64 0] 163)) w2 := (k1.then k2)
  have hR : w2.heap[w.heap.size]? = some (.cells #[.int .i64 0, .int .i64 0] 163 (0, 0)) := (kA.block _ z0 (by simp; omega)).trans K0.out.2
  go_wp2_with (refine wpList_store_row rfl 163 _ _ rfl w.heap.size #[.int .i64 a1, .int .i64 a2] rfl rfl 163 #[.int .i64 0, .int .i64 0] hR (by kernel_rfl) rfl (by simp [Value.oneCell']) ?_)
  go_wp2_with fail
  have hf : Keeps [w.heap.size] w2 (w2.setRow w.heap.size #[.int .i64 a1, .int .i64 a2]) := (Keeps.refl _ _).setRow (.inl (by simp)) _
  have hfr : Fresh rMember w (w2.setRow w.heap.size #[.int .i64 a1, .int .i64 a2]) [P] #[.int .i64 a1, .int .i64 a2].toList (a1, a2) := ((fresh_int _ _ _ t1).pair (fresh_int _ _ _ t2))
  refine bodyPost_ret (v := .agg #[.int .i64 a1, .int .i64 a2]) (results_cell_row Tryz.results88 _ _ w.heap.size 163 _ (0, 0) _ rfl (setRow_heap _ _ _ _ _ _ hR) Tryz.underlying163 rfl (by kernel_rfl)) rfl ?_
  exact Rds.yes (cs := #[.int .i64 a1, .int .i64 a2].toList) (cPair_mk D1.out D2.out) rfl hfr (i2.other hf hz) ((((K0.out.1.then k1).then k2)).setRow (.inr (Nat.le_refl _)) _)
set_option maxRecDepth 100000 in
set_option maxHeartbeats 4000000 in
theorem session_rd (P : Nat) (A : Option Addr) (n cp : Nat) (l : List Nat) (p : Nat) (w : World) (h : In w P A n cp l p) :
    Calls Tryz.prog 107 #[.pointer (some ⟨P, 0, none⟩)] w (Rds true cSession rSession P A n cp l p w) := by
  have k0 : Keeps [P] w (w.alloc (.cells #[.int .u64 0, .int .u64 0, .bool false, .int .u64 0, .int .i64 0] 184)) := (Keeps.refl _ _).alloc _
  have i0 := h.kept ((Keeps.refl _ _).alloc (.cells #[.int .u64 0, .int .u64 0, .bool false, .int .u64 0, .int .i64 0] 184))
  have z0 : w.heap.size < (w.alloc (.cells #[.int .u64 0, .int .u64 0, .bool false, .int .u64 0, .int .i64 0] 184)).heap.size := by simp
  have g0 : (w.alloc (.cells #[.int .u64 0, .int .u64 0, .bool false, .int .u64 0, .int .i64 0] 184)).heap[w.heap.size]? = some (.cells #[.int .u64 0, .int .u64 0, .bool false, .int .u64 0, .int .i64 0] 184 (0, 0)) := heap_alloc_new _ _
  have K0 := Lib.hid (And.intro k0 g0)
  have hz := h.lt
  clear k0 g0 h
  go_enter Tryz.func107, Tryz.ntmps107
  go_wp2_with fail
  refine (number_rd P A n cp l p _ i0).mono ?_
  rintro e w1 h1
  rcases h1.num with ⟨a1, q1, hd1, t1, rfl, i1, k1⟩ | ⟨hd1, rfl, k1⟩
  case inr => exact ⟨rfl, Rds.no (cPair_no hd1) rfl (K0.out.1.then k1)⟩
  have D1 := Lib.hid hd1
  have z1 := Nat.lt_of_lt_of_le z0 k1.size
  clear h1 hd1
  go_wp2_with fail
  refine (number_rd P A n cp l _ _ i1).mono ?_
  rintro e w2 h2
  rcases h2.num with ⟨a2, q2, hd2, t2, rfl, i2, k2⟩ | ⟨hd2, rfl, k2⟩
  case inr => exact ⟨rfl, Rds.no (cPair_no2 D1.out (cPair_no hd2)) rfl ((K0.out.1.then k1).then k2)⟩
  have D2 := Lib.hid hd2
  have z2 := Nat.lt_of_lt_of_le z1 k2.size
  clear h2 hd2
  go_wp2_with fail
  refine (flag_rd P A n cp l _ _ i2).mono ?_
  rintro e w3 h3
  rcases h3.flag with ⟨a3, q3, hd3, rfl, i3, k3⟩ | ⟨hd3, rfl, k3⟩
  case inr => exact ⟨rfl, Rds.no (cPair_no2 D1.out (cPair_no2 D2.out (cPair_no hd3))) rfl (((K0.out.1.then k1).then k2).then k3)⟩
  have D3 := Lib.hid hd3
  have z3 := Nat.lt_of_lt_of_le z2 k3.size
  clear h3 hd3
  go_wp2_with fail
  refine (number_rd P A n cp l _ _ i3).mono ?_
  rintro e w4 h4
  rcases h4.num with ⟨a4, q4, hd4, t4, rfl, i4, k4⟩ | ⟨hd4, rfl, k4⟩
  case inr => exact ⟨rfl, Rds.no (cPair_no2 D1.out (cPair_no2 D2.out (cPair_no2 D3.out (cPair_no hd4)))) rfl ((((K0.out.1.then k1).then k2).then k3).then k4)⟩
  have D4 := Lib.hid hd4
  have z4 := Nat.lt_of_lt_of_le z3 k4.size
  clear h4 hd4
  go_wp2_with fail
  refine (integer_rd P A n cp l _ _ i4).mono ?_
  rintro e w5 h5
  rcases h5.int with ⟨a5, q5, hd5, t5, rfl, i5, k5⟩ | ⟨hd5, rfl, k5⟩
  case inr => exact ⟨rfl, Rds.no (cPair_no2 D1.out (cPair_no2 D2.out (cPair_no2 D3.out (cPair_no2 D4.out hd5)))) rfl (((((K0.out.1.then k1).then k2).then k3).then k4).then k5)⟩
  have D5 := Lib.hid hd5
  have z5 := Nat.lt_of_lt_of_le z4 k5.size
  clear h5 hd5
  have b5 := t5.1
  have d5 := t5.2
  have kA : Keeps [P] (w.alloc (.cells #[.int .u64 0, .int .u64 0, .bool false, .int .u64 0, .int .i64 0] 184)) w5 := ((((k1.then k2).then k3).then k4).then k5)
  have hR : w5.heap[w.heap.size]? = some (.cells #[.int .u64 0, .int .u64 0, .bool false, .int .u64 0, .int .i64 0] 184 (0, 0)) := (kA.block _ z0 (by simp; omega)).trans K0.out.2
  go_wp2_with (refine wpList_store_row rfl 184 _ _ rfl w.heap.size #[.int .u64 ((a1 : Nat) : Int), .int .u64 ((a2 : Nat) : Int), .bool a3, .int .u64 ((a4 : Nat) : Int), .int .i64 a5] rfl rfl 184 #[.int .u64 0, .int .u64 0, .bool false, .int .u64 0, .int .i64 0] hR (by kernel_rfl) rfl (by simp [Value.oneCell']) ?_)
  go_wp2_with fail
  have hf : Keeps [w.heap.size] w5 (w5.setRow w.heap.size #[.int .u64 ((a1 : Nat) : Int), .int .u64 ((a2 : Nat) : Int), .bool a3, .int .u64 ((a4 : Nat) : Int), .int .i64 a5]) := (Keeps.refl _ _).setRow (.inl (by simp)) _
  have hfr : Fresh rSession w (w5.setRow w.heap.size #[.int .u64 ((a1 : Nat) : Int), .int .u64 ((a2 : Nat) : Int), .bool a3, .int .u64 ((a4 : Nat) : Int), .int .i64 a5]) [P] #[.int .u64 ((a1 : Nat) : Int), .int .u64 ((a2 : Nat) : Int), .bool a3, .int .u64 ((a4 : Nat) : Int), .int .i64 a5].toList (a1, a2, a3, a4, a5) := ((fresh_num _ _ _ t1).pair ((fresh_num _ _ _ t2).pair ((fresh_flag _ _ _).pair ((fresh_num _ _ _ t4).pair (fresh_int _ _ _ t5)))))
  refine bodyPost_ret (v := .agg #[.int .u64 ((a1 : Nat) : Int), .int .u64 ((a2 : Nat) : Int), .bool a3, .int .u64 ((a4 : Nat) : Int), .int .i64 a5]) (results_cell_row Tryz.results107 _ _ w.heap.size 184 _ (0, 0) _ rfl (setRow_heap _ _ _ _ _ _ hR) Tryz.underlying184 rfl (by kernel_rfl)) rfl ?_
  exact Rds.yes (cs := #[.int .u64 ((a1 : Nat) : Int), .int .u64 ((a2 : Nat) : Int), .bool a3, .int .u64 ((a4 : Nat) : Int), .int .i64 a5].toList) (cPair_mk D1.out (cPair_mk D2.out (cPair_mk D3.out (cPair_mk D4.out D5.out)))) rfl hfr (i5.other hf hz) (((((((K0.out.1.then k1).then k2).then k3).then k4).then k5)).setRow (.inr (Nat.le_refl _)) _)
set_option maxRecDepth 100000 in
set_option maxHeartbeats 1000000 in
theorem waste_rd (P : Nat) (A : Option Addr) (n cp : Nat) (l : List Nat) (p : Nat) (w : World) (h : In w P A n cp l p) :
    Calls Tryz.prog 109 #[.pointer (some ⟨P, 0, none⟩)] w (Rds true cWaste rWaste P A n cp l p w) := by
  have k0 : Keeps [P] w (w.alloc (.cells #[.int .u64 0, .int .i64 0, .int .u64 0, .int .i64 0] 189)) := (Keeps.refl _ _).alloc _
  have i0 := h.kept ((Keeps.refl _ _).alloc (.cells #[.int .u64 0, .int .i64 0, .int .u64 0, .int .i64 0] 189))
  have z0 : w.heap.size < (w.alloc (.cells #[.int .u64 0, .int .i64 0, .int .u64 0, .int .i64 0] 189)).heap.size := by simp
  have g0 : (w.alloc (.cells #[.int .u64 0, .int .i64 0, .int .u64 0, .int .i64 0] 189)).heap[w.heap.size]? = some (.cells #[.int .u64 0, .int .i64 0, .int .u64 0, .int .i64 0] 189 (0, 0)) := heap_alloc_new _ _
  have K0 := Lib.hid (And.intro k0 g0)
  have hz := h.lt
  clear k0 g0 h
  go_enter Tryz.func109, Tryz.ntmps109
  go_wp2_with fail
  refine (chunkID_rd P A n cp l p _ i0).mono ?_
  rintro e w1 h1
  rcases h1.agg with ⟨a1, q1, cs1, hd1, f1, rfl, i1, k1⟩ | ⟨hd1, rfl, k1⟩
  case inr => exact ⟨rfl, Rds.no (cPair_no hd1) rfl (K0.out.1.then k1)⟩
  have D1 := Lib.hid hd1
  have z1 := Nat.lt_of_lt_of_le z0 k1.size
  clear h1 hd1
  obtain rfl := shape_chunkID f1.here
  have F1 := Lib.hid f1
  clear f1
  go_wp2_with fail
  refine (integer_rd P A n cp l _ _ i1).mono ?_
  rintro e w2 h2
  rcases h2.int with ⟨a2, q2, hd2, t2, rfl, i2, k2⟩ | ⟨hd2, rfl, k2⟩
  case inr => exact ⟨rfl, Rds.no (cPair_no2 D1.out hd2) rfl ((K0.out.1.then k1).then k2)⟩
  have D2 := Lib.hid hd2
  have z2 := Nat.lt_of_lt_of_le z1 k2.size
  clear h2 hd2
  have kA : Keeps [P] (w.alloc (.cells #[.int .u64 0, .int .i64 0, .int .u64 0, .int .i64 0] 189)) w2 := (k1.then k2)
  have hR : w2.heap[w.heap.size]? = some (.cells #[.int .u64 0, .int .i64 0, .int .u64 0, .int .i64 0] 189 (0, 0)) := (kA.block _ z0 (by simp; omega)).trans K0.out.2
  go_wp2_with (refine wpList_store_row rfl 189 _ _ rfl w.heap.size #[.int .u64 ((a1.1 : Nat) : Int), .int .i64 (a1.2.1), .int .u64 ((a1.2.2 : Nat) : Int), .int .i64 a2] rfl rfl 189 #[.int .u64 0, .int .i64 0, .int .u64 0, .int .i64 0] hR (by kernel_rfl) rfl (by simp [Value.oneCell']) ?_)
  go_wp2_with fail
  have hf : Keeps [w.heap.size] w2 (w2.setRow w.heap.size #[.int .u64 ((a1.1 : Nat) : Int), .int .i64 (a1.2.1), .int .u64 ((a1.2.2 : Nat) : Int), .int .i64 a2]) := (Keeps.refl _ _).setRow (.inl (by simp)) _
  have e1 : Keeps [P, w.heap.size] w1 (w2.setRow w.heap.size #[.int .u64 ((a1.1 : Nat) : Int), .int .i64 (a1.2.1), .int .u64 ((a1.2.2 : Nat) : Int), .int .i64 a2]) := (k2.mono (by simp)).then (hf.mono (by simp))
  have hfr : Fresh rWaste w (w2.setRow w.heap.size #[.int .u64 ((a1.1 : Nat) : Int), .int .i64 (a1.2.1), .int .u64 ((a1.2.2 : Nat) : Int), .int .i64 a2]) [P] #[.int .u64 ((a1.1 : Nat) : Int), .int .i64 (a1.2.1), .int .u64 ((a1.2.2 : Nat) : Int), .int .i64 a2].toList (a1, a2) := (((F1.out.kept rok_id (X2 := [P]) e1 (by intro b hb; simp at hb; rcases hb with rfl | rfl <;> simp <;> omega) (fun b hb => .inl hb)).mono (Nat.le_of_lt z0)).pair (fresh_int _ _ _ t2))
  refine bodyPost_ret (v := .agg #[.int .u64 ((a1.1 : Nat) : Int), .int .i64 (a1.2.1), .int .u64 ((a1.2.2 : Nat) : Int), .int .i64 a2]) (results_cell_row Tryz.results109 _ _ w.heap.size 189 _ (0, 0) _ rfl (setRow_heap _ _ _ _ _ _ hR) Tryz.underlying189 rfl (by kernel_rfl)) rfl ?_
  exact Rds.yes (cs := #[.int .u64 ((a1.1 : Nat) : Int), .int .i64 (a1.2.1), .int .u64 ((a1.2.2 : Nat) : Int), .int .i64 a2].toList) (cPair_mk D1.out D2.out) rfl hfr (i2.other hf hz) ((((K0.out.1.then k1).then k2)).setRow (.inr (Nat.le_refl _)) _)
end Pk
end Go.Proofs.YtjpbinkklhmphaaGreat
