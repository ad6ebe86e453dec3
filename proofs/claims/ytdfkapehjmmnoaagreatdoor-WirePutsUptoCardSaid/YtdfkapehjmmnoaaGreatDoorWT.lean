/-
  THE WALKS of wire's get and Get: a message's bytes are read as that message. Conditions: the bytes stand for a message, from their beginning to their end.
-/
import Derived.Test.YtdfkapehjmmnoaaGreatDoorWO
import Derived.Test.YtdfkapehjmmnoaaGreatDoorWK
import Derived.Test.YtdfkapehjmmnoaaGreatDoorWQ
namespace Go.Proofs.YtdfkapehjmmnoaaGreatDoor
open _root_.Go.Value renaming int → V, slice → O
open _root_.Go.IntKind renaming i64 → J, u64 → U
open Go.RowKit Go.ChangeShapes Go.WideShapes Go.ChangeAt
namespace Pk
open Oc
def GotE (m : Msg) (x : Value) (w : World) (e : Ending) (w' : World) : Prop := ∃ cs : List Value, e = .returned (.tuple #[.agg cs.toArray, x]) ∧ Fresh rMsg w w' [] cs m ∧ Below w.heap.size w w'
set_option maxRecDepth 100000 in
set_option maxHeartbeats 4000000 in
theorem get_any (A : Option Addr) (n cp : Nat) (l : List Nat) (m : Msg) (w : World) (hb : Bs w w.heap.size A n l) (hf : Fit A n cp) (hd : cMsg.dec l 0 = some (m, l.length)) :
    Calls Tryz.prog 36 #[.slice A n cp] w (GotE m .nilIface w) := by
  have hln := hb.1
  have w1s : ((w.alloc (.cells #[V J 0, V J 0, V J 0, V U 0, V U 0, V U 0, V U 0, V U 0, .bool false, .bool false, O none 0 0, O none 0 0, O none 0 0, V U 0, V J 0, V U 0, V J 0, V J 0, V J 0, V .u32 0, O none 0 0, V U 0, V U 0, V J 0, .string ⟨#[]⟩, V J 0, O none 0 0] 47)).alloc (.cells #[.slice A n cp, V J 0, .nilIface] 128)).heap.size = w.heap.size + 2 := by simp
  have g1 : ((w.alloc (.cells #[V J 0, V J 0, V J 0, V U 0, V U 0, V U 0, V U 0, V U 0, .bool false, .bool false, O none 0 0, O none 0 0, O none 0 0, V U 0, V J 0, V U 0, V J 0, V J 0, V J 0, V .u32 0, O none 0 0, V U 0, V U 0, V J 0, .string ⟨#[]⟩, V J 0, O none 0 0] 47)).alloc (.cells #[.slice A n cp, V J 0, .nilIface] 128)).heap[w.heap.size]? = some (.cells #[V J 0, V J 0, V J 0, V U 0, V U 0, V U 0, V U 0, V U 0, .bool false, .bool false, O none 0 0, O none 0 0, O none 0 0, V U 0, V J 0, V U 0, V J 0, V J 0, V J 0, V .u32 0, O none 0 0, V U 0, V U 0, V J 0, .string ⟨#[]⟩, V J 0, O none 0 0] 47 (0, 0)) := heap_alloc2_old _ _ _
  have g2 : ((w.alloc (.cells #[V J 0, V J 0, V J 0, V U 0, V U 0, V U 0, V U 0, V U 0, .bool false, .bool false, O none 0 0, O none 0 0, O none 0 0, V U 0, V J 0, V U 0, V J 0, V J 0, V J 0, V .u32 0, O none 0 0, V U 0, V U 0, V J 0, .string ⟨#[]⟩, V J 0, O none 0 0] 47)).alloc (.cells #[.slice A n cp, V J 0, .nilIface] 128)).heap[w.heap.size + 1]? = some (.cells #[.slice A n cp, V J 0, .nilIface] 128 (0, 0)) := heap_alloc2_new _ _ _
  have hb0 : Below w.heap.size w ((w.alloc (.cells #[V J 0, V J 0, V J 0, V U 0, V U 0, V U 0, V U 0, V U 0, .bool false, .bool false, O none 0 0, O none 0 0, O none 0 0, V U 0, V J 0, V U 0, V J 0, V J 0, V J 0, V .u32 0, O none 0 0, V U 0, V U 0, V J 0, .string ⟨#[]⟩, V J 0, O none 0 0] 47)).alloc (.cells #[.slice A n cp, V J 0, .nilIface] 128)) := ((Below.refl _ _).alloc (Nat.le_refl _) _).alloc (by simp) _
  have hi : Inw ((w.alloc (.cells #[V J 0, V J 0, V J 0, V U 0, V U 0, V U 0, V U 0, V U 0, .bool false, .bool false, O none 0 0, O none 0 0, O none 0 0, V U 0, V J 0, V U 0, V J 0, V J 0, V J 0, V .u32 0, O none 0 0, V U 0, V U 0, V J 0, .string ⟨#[]⟩, V J 0, O none 0 0] 47)).alloc (.cells #[.slice A n cp, V J 0, .nilIface] 128)) (w.heap.size + 1) A n cp l 0 := ⟨g2, (hb.below hb0).more (by omega), hf, Nat.zero_le _⟩
  have hmsg := message_any (w.heap.size + 1) A n cp l 0 l.length m _ hi hd
  have HX := Lib.hid (And.intro g1 (And.intro hb0 (And.intro w1s hln)))
  clear g1 g2 hb0 hi w1s hln hd hb
  go_enter Tryz.func36, Tryz.ntmps36
  go_wp2_with fail
  refine hmsg.mono ?_
  rintro e w1 ⟨cs, rfl, f1, i1, k1⟩
  simp only [valOf, if_true]
  have hsz := rok_msg.size f1.here
  have hone := rok_msg.one f1.here
  have hj0 : (Tryz.prog.info? 47).map (·.size) = some cs.toArray.size := by rw [List.size_toArray, hsz]; kernel_rfl
  have hj1 : (#[V J 0, V J 0, V J 0, V U 0, V U 0, V U 0, V U 0, V U 0, .bool false, .bool false, O none 0 0, O none 0 0, O none 0 0, V U 0, V J 0, V U 0, V J 0, V J 0, V J 0, V .u32 0, O none 0 0, V U 0, V U 0, V J 0, .string ⟨#[]⟩, V J 0, O none 0 0] : Array Value).size = cs.toArray.size := by simp [hsz]
  have hj2 : cs.toArray.all (·.oneCell') = true := by simpa using hone
  have gz : ((w1.alloc (.cells #[V J 0, V J 0, V J 0, V U 0, V U 0, V U 0, V U 0, V U 0, .bool false, .bool false, O none 0 0, O none 0 0, O none 0 0, V U 0, V J 0, V U 0, V J 0, V J 0, V J 0, V .u32 0, O none 0 0, V U 0, V U 0, V J 0, .string ⟨#[]⟩, V J 0, O none 0 0] 47)).setRow w1.heap.size cs.toArray).heap[w1.heap.size]? = some (.cells cs.toArray 47 (0, 0)) := setRow_heap _ _ _ _ _ _ (heap_alloc_new _ _)
  have kz : Keeps [] w1 ((w1.alloc (.cells #[V J 0, V J 0, V J 0, V U 0, V U 0, V U 0, V U 0, V U 0, .bool false, .bool false, O none 0 0, O none 0 0, O none 0 0, V U 0, V J 0, V U 0, V J 0, V J 0, V J 0, V .u32 0, O none 0 0, V U 0, V U 0, V J 0, .string ⟨#[]⟩, V J 0, O none 0 0] 47)).setRow w1.heap.size cs.toArray) := ((Keeps.refl [] w1).alloc _).setRow (.inr (Nat.le_refl _)) _
  have iz := i1.kept kz
  have c1 := iz.c1
  have c2 := iz.c2
  have g3 := (kz.block w.heap.size (by have := k1.size; have := HX.out.2.2.1; omega) (by simp)).trans ((k1.block w.heap.size (by have := HX.out.2.2.1; omega) (by simp)).trans HX.out.1)
  have hs0 : cs.toArray.size = (#[V J 0, V J 0, V J 0, V U 0, V U 0, V U 0, V U 0, V U 0, .bool false, .bool false, O none 0 0, O none 0 0, O none 0 0, V U 0, V J 0, V U 0, V J 0, V J 0, V J 0, V .u32 0, O none 0 0, V U 0, V U 0, V J 0, .string ⟨#[]⟩, V J 0, O none 0 0] : Array Value).size := hj1.symm
  have f2 := (f1.kept rok_msg (X2 := []) kz (by simp) (by simp))
  have hk : Keeps [w.heap.size + 1] ((w.alloc (.cells #[V J 0, V J 0, V J 0, V U 0, V U 0, V U 0, V U 0, V U 0, .bool false, .bool false, O none 0 0, O none 0 0, O none 0 0, V U 0, V J 0, V U 0, V J 0, V J 0, V J 0, V .u32 0, O none 0 0, V U 0, V U 0, V J 0, .string ⟨#[]⟩, V J 0, O none 0 0] 47)).alloc (.cells #[.slice A n cp, V J 0, .nilIface] 128)) ((w1.alloc (.cells #[V J 0, V J 0, V J 0, V U 0, V U 0, V U 0, V U 0, V U 0, .bool false, .bool false, O none 0 0, O none 0 0, O none 0 0, V U 0, V J 0, V U 0, V J 0, V J 0, V J 0, V .u32 0, O none 0 0, V U 0, V U 0, V J 0, .string ⟨#[]⟩, V J 0, O none 0 0] 47)).setRow w1.heap.size cs.toArray) := k1.then (kz.mono (by simp))
  have HI := Lib.hid (And.intro hj0 (And.intro hj1 (And.intro hj2 gz)))
  have HK := Lib.hid (And.intro g3 (And.intro f2 hk))
  have hln := HX.out.2.2.2
  have e1 : ((l.length : Int) == (n : Int)) = true := by rw [hln]; simp
  clear hsz hone hj0 hj1 hj2 gz kz iz i1 k1 f1 f2 g3 hk hs0
  go_wp2_with (with_reducible show wpList _ _ _ _ _ _; refine wpList_store_row rfl 47 _ _ rfl w1.heap.size cs.toArray rfl rfl 47 #[V J 0, V J 0, V J 0, V U 0, V U 0, V U 0, V U 0, V U 0, .bool false, .bool false, O none 0 0, O none 0 0, O none 0 0, V U 0, V J 0, V U 0, V J 0, V J 0, V J 0, V .u32 0, O none 0 0, V U 0, V U 0, V J 0, .string ⟨#[]⟩, V J 0, O none 0 0] (heap_alloc_new _ _) HI.out.1 HI.out.2.1 HI.out.2.2.1 ?_)
  generalize (w1.alloc (.cells #[V J 0, V J 0, V J 0, V U 0, V U 0, V U 0, V U 0, V U 0, .bool false, .bool false, O none 0 0, O none 0 0, O none 0 0, V U 0, V J 0, V U 0, V J 0, V J 0, V J 0, V .u32 0, O none 0 0, V U 0, V U 0, V J 0, .string ⟨#[]⟩, V J 0, O none 0 0] 47)).setRow w1.heap.size cs.toArray = w2 at *
  refine (demandW_ok (w.heap.size + 1) _).mono ?_
  rintro e w3 ⟨rfl, rfl⟩
  go_wp2_with (with_reducible show wpList _ _ _ _ _ _; first
    | (refine wpList_load_row rfl 47 _ rfl w1.heap.size rfl 47 cs.toArray (0, 0) _ HI.out.2.2.2 Tryz.underlying47 rfl HI.out.1 ?_)
    | (refine wpList_store_row rfl 47 _ _ rfl w.heap.size cs.toArray rfl rfl 47 #[V J 0, V J 0, V J 0, V U 0, V U 0, V U 0, V U 0, V U 0, .bool false, .bool false, O none 0 0, O none 0 0, O none 0 0, V U 0, V J 0, V U 0, V J 0, V J 0, V J 0, V .u32 0, O none 0 0, V U 0, V U 0, V J 0, .string ⟨#[]⟩, V J 0, O none 0 0] HK.out.1 HI.out.1 HI.out.2.1 HI.out.2.2.1 ?_))
  have gf : (w2.setRow w.heap.size cs.toArray).heap[w.heap.size]? = some (.cells cs.toArray 47 (0, 0)) := setRow_heap _ _ _ _ _ _ HK.out.1
  have kq : Keeps [w.heap.size] w2 (w2.setRow w.heap.size cs.toArray) := (Keeps.refl _ _).setRow (.inl (by simp)) _
  refine bodyPost_ret (v := .tuple #[.agg cs.toArray, .nilIface]) (results_one Tryz.results36 _ _ w.heap.size 47 _ (0, 0) _ _ rfl gf Tryz.underlying47 rfl HI.out.1 rfl) rfl ?_
  refine ⟨cs, rfl, ?_, below_setRow (HX.out.2.1.trans (HK.out.2.2.below (by simp) (by have := HX.out.2.2.1; omega))) (Nat.le_refl _) _⟩
  exact (HK.out.2.1.kept rok_msg (X2 := []) kq (fun b hb => .inl (by rw [List.mem_singleton.1 hb]; have := HX.out.2.2.1; omega)) (by simp)).mono (by have := HX.out.2.2.1; omega)
set_option maxRecDepth 100000 in
set_option maxHeartbeats 4000000 in
theorem Get_any (A : Option Addr) (n cp : Nat) (l : List Nat) (m : Msg) (w : World) (hT : Tyd w) (hb : Bs w w.heap.size A n l) (hf : Fit A n cp) (hd : cMsg.dec l 0 = some (m, l.length)) :
    Calls Tryz.prog 21 #[.slice A n cp] w (GotE m (V J 0) w) := by
  have hb0 : Below w.heap.size w (w.alloc (.cells #[V J 0, V J 0, V J 0, V U 0, V U 0, V U 0, V U 0, V U 0, .bool false, .bool false, O none 0 0, O none 0 0, O none 0 0, V U 0, V J 0, V U 0, V J 0, V J 0, V J 0, V .u32 0, O none 0 0, V U 0, V U 0, V J 0, .string ⟨#[]⟩, V J 0, O none 0 0] 47)) := (Below.refl _ _).alloc (Nat.le_refl _) _
  have g1 : (w.alloc (.cells #[V J 0, V J 0, V J 0, V U 0, V U 0, V U 0, V U 0, V U 0, .bool false, .bool false, O none 0 0, O none 0 0, O none 0 0, V U 0, V J 0, V U 0, V J 0, V J 0, V J 0, V .u32 0, O none 0 0, V U 0, V U 0, V J 0, .string ⟨#[]⟩, V J 0, O none 0 0] 47)).heap[w.heap.size]? = some (.cells #[V J 0, V J 0, V J 0, V U 0, V U 0, V U 0, V U 0, V U 0, .bool false, .bool false, O none 0 0, O none 0 0, O none 0 0, V U 0, V J 0, V U 0, V J 0, V J 0, V J 0, V .u32 0, O none 0 0, V U 0, V U 0, V J 0, .string ⟨#[]⟩, V J 0, O none 0 0] 47 (0, 0)) := heap_alloc_new _ _
  have w1s : (w.alloc (.cells #[V J 0, V J 0, V J 0, V U 0, V U 0, V U 0, V U 0, V U 0, .bool false, .bool false, O none 0 0, O none 0 0, O none 0 0, V U 0, V J 0, V U 0, V J 0, V J 0, V J 0, V .u32 0, O none 0 0, V U 0, V U 0, V J 0, .string ⟨#[]⟩, V J 0, O none 0 0] 47)).heap.size = w.heap.size + 1 := by simp
  have hget := get_any A n cp l m _ (hb.on hb0) hf hd
  have hT1 := hT.on hb0
  have HX := Lib.hid (And.intro g1 (And.intro hb0 (And.intro w1s hT1)))
  clear g1 hb0 w1s hd hb hT hT1
  go_enter Tryz.func21, Tryz.ntmps21
  go_wp2_with fail
  refine hget.mono ?_
  rintro e w1 ⟨cs, rfl, f1, b1⟩
  have hsz := rok_msg.size f1.here
  have hone := rok_msg.one f1.here
  have hj0 : (Tryz.prog.info? 47).map (·.size) = some cs.toArray.size := by rw [List.size_toArray, hsz]; kernel_rfl
  have hj1 : (#[V J 0, V J 0, V J 0, V U 0, V U 0, V U 0, V U 0, V U 0, .bool false, .bool false, O none 0 0, O none 0 0, O none 0 0, V U 0, V J 0, V U 0, V J 0, V J 0, V J 0, V .u32 0, O none 0 0, V U 0, V U 0, V J 0, .string ⟨#[]⟩, V J 0, O none 0 0] : Array Value).size = cs.toArray.size := by simp [hsz]
  have hj2 : cs.toArray.all (·.oneCell') = true := by simpa using hone
  have gz : ((w1.alloc (.cells #[V J 0, V J 0, V J 0, V U 0, V U 0, V U 0, V U 0, V U 0, .bool false, .bool false, O none 0 0, O none 0 0, O none 0 0, V U 0, V J 0, V U 0, V J 0, V J 0, V J 0, V .u32 0, O none 0 0, V U 0, V U 0, V J 0, .string ⟨#[]⟩, V J 0, O none 0 0] 47)).setRow w1.heap.size cs.toArray).heap[w1.heap.size]? = some (.cells cs.toArray 47 (0, 0)) := setRow_heap _ _ _ _ _ _ (heap_alloc_new _ _)
  have kz : Keeps [] w1 ((w1.alloc (.cells #[V J 0, V J 0, V J 0, V U 0, V U 0, V U 0, V U 0, V U 0, .bool false, .bool false, O none 0 0, O none 0 0, O none 0 0, V U 0, V J 0, V U 0, V J 0, V J 0, V J 0, V .u32 0, O none 0 0, V U 0, V U 0, V J 0, .string ⟨#[]⟩, V J 0, O none 0 0] 47)).setRow w1.heap.size cs.toArray) := ((Keeps.refl [] w1).alloc _).setRow (.inr (Nat.le_refl _)) _
  have kk : Keeps [] (w.alloc (.cells #[V J 0, V J 0, V J 0, V U 0, V U 0, V U 0, V U 0, V U 0, .bool false, .bool false, O none 0 0, O none 0 0, O none 0 0, V U 0, V J 0, V U 0, V J 0, V J 0, V J 0, V .u32 0, O none 0 0, V U 0, V U 0, V J 0, .string ⟨#[]⟩, V J 0, O none 0 0] 47)) ((w1.alloc (.cells #[V J 0, V J 0, V J 0, V U 0, V U 0, V U 0, V U 0, V U 0, .bool false, .bool false, O none 0 0, O none 0 0, O none 0 0, V U 0, V J 0, V U 0, V J 0, V J 0, V J 0, V .u32 0, O none 0 0, V U 0, V U 0, V J 0, .string ⟨#[]⟩, V J 0, O none 0 0] 47)).setRow w1.heap.size cs.toArray) := (Keeps.of_below [] b1).then kz
  have g3 := (kk.block w.heap.size (by have := HX.out.2.2.1; omega) (by simp)).trans HX.out.1
  have f2 := (f1.kept rok_msg (X2 := []) kz (by simp) (by simp))
  have hT2 := HX.out.2.2.2.on (kk.below (by simp) (Nat.le_refl _))
  have HI := Lib.hid (And.intro hj0 (And.intro hj1 (And.intro hj2 gz)))
  have HK := Lib.hid (And.intro g3 (And.intro f2 (And.intro kk hT2)))
  have hl1 : w.heap.size < w1.heap.size := by have := b1.size; have := HX.out.2.2.1; omega
  clear hsz hone hj0 hj1 hj2 gz kz kk f1 f2 g3 b1 hT2
  go_upto_region 2 with (with_reducible show wpList _ _ _ _ _ _; refine wpList_store_row rfl 47 _ _ rfl w1.heap.size cs.toArray rfl rfl 47 #[V J 0, V J 0, V J 0, V U 0, V U 0, V U 0, V U 0, V U 0, .bool false, .bool false, O none 0 0, O none 0 0, O none 0 0, V U 0, V J 0, V U 0, V J 0, V J 0, V J 0, V .u32 0, O none 0 0, V U 0, V U 0, V J 0, .string ⟨#[]⟩, V J 0, O none 0 0] (heap_alloc_new _ _) HI.out.1 HI.out.2.1 HI.out.2.2.1 ?_)
  generalize (w1.alloc (.cells #[V J 0, V J 0, V J 0, V U 0, V U 0, V U 0, V U 0, V U 0, .bool false, .bool false, O none 0 0, O none 0 0, O none 0 0, V U 0, V J 0, V U 0, V J 0, V J 0, V J 0, V .u32 0, O none 0 0, V U 0, V U 0, V J 0, .string ⟨#[]⟩, V J 0, O none 0 0] 47)).setRow w1.heap.size cs.toArray = w2 at *
  have hk0 : Keeps [w.heap.size] w2 w2.drew := (Keeps.refl _ _).drew
  have hl2 : w1.heap.size < w2.heap.size := (Array.getElem?_eq_some_iff.1 HI.out.2.2.2).1
  refine wa_begin (S := fun wx => Keeps [w.heap.size] w2 wx) (by kernel_rfl) hk0 ?_
  refine wa_tk 0 11 (.agg cs.toArray) (by kernel_rfl) (fun wx hS => ex_load_row 47 _ rfl w1.heap.size (by kernel_rfl) 47 cs.toArray (0, 0) _ ((hS.block _ hl2 (by simp; omega)).trans HI.out.2.2.2) Tryz.underlying47 rfl HI.out.1) hk0 ?_
  refine wa_tk 1 12 .nilIface (by kernel_rfl) (fun _ _ => by kernel_rfl) hk0 ?_
  refine wa_ready1 2 (by kernel_rfl) (na_call 2 13 24 #[.nilIface] (fun v w' => v = V J 0 ∧ Below w2.drew.heap.size w2.drew w') (by kernel_rfl) (by kernel_rfl) (by kernel_rfl) (by kernel_rfl) ((num_ok w2.drew).mono fun e w' h => ⟨_, h.1, rfl, h.2⟩) ?_)
  rintro v w3 ⟨rfl, hbl⟩
  have hk3 : Keeps [] w2 w3 := ((Keeps.refl [] w2).drew).then (Keeps.of_below _ hbl)
  have hk3' : Keeps [w.heap.size] w2 w3 := hk3.mono (by simp)
  refine ⟨hk3', ?_⟩
  have g4 := (hk3.block w.heap.size (by omega) (by simp)).trans HK.out.1
  have hk4 : Keeps [w.heap.size] w2 (w3.setRow w.heap.size cs.toArray) := hk3'.setRow (.inl (by simp)) _
  refine wa_store 3 (w3.setRow w.heap.size cs.toArray) (by kernel_rfl) (by kernel_rfl) (by kernel_rfl) (by kernel_rfl) (ex_store_row 47 _ _ rfl w.heap.size cs.toArray (by kernel_rfl) (by kernel_rfl) 47 _ g4 HI.out.1 HI.out.2.1 HI.out.2.2.1) hk4 ?_
  refine wa_tk 4 3 (V J 0) (by kernel_rfl) (fun _ _ => by kernel_rfl) hk4 ?_
  refine wa_done (by kernel_rfl) ?_
  simp only [Act.put, List.setIfInBounds_toArray, List.set_cons_zero, List.set_cons_succ]
  have gf : (w3.setRow w.heap.size cs.toArray).heap[w.heap.size]? = some (.cells cs.toArray 47 (0, 0)) := setRow_heap _ _ _ _ _ _ g4
  have HL := Lib.hid (And.intro gf hk4)
  clear g4 hk4 hk3 hk3' hk0 hbl gf
  go_wp2_with fail
  refine bodyPost_ret (v := .tuple #[.agg cs.toArray, V J 0]) (results_one Tryz.results21 _ _ w.heap.size 47 _ (0, 0) _ _ rfl HL.out.1 Tryz.underlying47 rfl HI.out.1 rfl) rfl ?_
  refine ⟨cs, rfl, ?_, ?_⟩
  · exact (HK.out.2.1.kept rok_msg (X2 := []) HL.out.2 (fun b hb => .inl (by rw [List.mem_singleton.1 hb]; have := HX.out.2.2.1; omega)) (by simp)).mono (by have := HX.out.2.2.1; omega)
  · exact HX.out.2.1.trans ((HK.out.2.2.1.mono (by simp)).then HL.out.2 |>.below (B := w.heap.size) (by simp) (by have := HX.out.2.2.1; omega))
set_option maxRecDepth 100000 in
theorem Put_any (cs : List Value) (m : Msg) (w : World) (hr : rMsg w [] cs m) (hm : (cMsg.enc m).length ≤ 1000000000) (hty : cMsg.typ m) :
    Calls Tryz.prog 12 #[.agg cs.toArray] w (Own (cMsg.enc m) w) := by
  have hsz := rok_msg.size hr
  have k0 : Keeps [] w (w.alloc (.cells cs.toArray 47)) := (Keeps.refl _ _).alloc _
  have hr1 := rok_msg.kept (X' := []) hr k0 (by simp) (by simp)
  have g0 : (w.alloc (.cells cs.toArray 47)).heap[w.heap.size]? = some (.cells cs.toArray 47 (0, 0)) := heap_alloc_new _ _
  have hi1 : (Tryz.prog.info? 47).map (·.size) = some cs.toArray.size := by rw [List.size_toArray, hsz]; kernel_rfl
  obtain ⟨kd, fr, tn, tm, ix, lt, cm, cx, ok, fo, en, ⟨vo, le⟩, ⟨⟨hv, hi, he⟩, hk, hn, hs, hu⟩, da, cl, sq, op, ky, co, nm⟩ := m
  have hput : Calls Tryz.prog 26 #[.agg cs.toArray] (w.alloc (.cells cs.toArray 47)) (Own (cMsg.enc (kd, fr, tn, tm, ix, lt, cm, cx, ok, fo, en, (vo, le), ((hv, hi, he), hk, hn, hs, hu), da, cl, sq, op, ky, co, nm)) (w.alloc (.cells cs.toArray 47))) := by
    obtain ⟨Ae, ce, Av, cv, Al, cl', Ad, cd, An, cn, rfl, hat⟩ := msg_shape hr1
    exact wput_at kd fr tn tm ix lt cm cx ok fo en vo le hv hi he hk hn hs hu da cl sq op ky co nm Ae ce Av cv Al cl' Ad cd An cn _ hat hm hty
  have HG := Lib.hid (And.intro g0 hi1)
  clear g0 hi1 hr hr1 hm hty hsz k0
  go_enter Tryz.func12, Tryz.ntmps12
  go_wp2_with (refine wpList_load_row rfl 47 _ rfl w.heap.size rfl 47 cs.toArray (0, 0) _ HG.out.1 Tryz.underlying47 rfl HG.out.2 ?_)
  refine hput.mono ?_
  rintro e w1 ⟨v, rfl, hown, hbl⟩
  have HO := Lib.hid (And.intro hown hbl)
  clear hown hbl hput
  go_wp2_with fail
  go_ret
  exact ⟨v, rfl, own_base HO.out.1 (by simp), ((Below.refl _ _).alloc (Nat.le_refl _) _).trans (HO.out.2.mono (by simp))⟩
end Pk
end Go.Proofs.YtdfkapehjmmnoaaGreatDoor
