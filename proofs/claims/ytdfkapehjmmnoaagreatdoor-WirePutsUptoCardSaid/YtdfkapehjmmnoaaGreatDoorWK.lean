/-
  THE WALK of wire's put: twenty pieces, joined. Conditions: the message's bytes are at most a thousand million.
  THE WALKS of wire's putText and putList. Conditions: what is made takes at most 2^47 bytes.
-/
import Derived.Test.YtdfkapehjmmnoaaGreatDoorPT
import Derived.Test.YtdfkapehjmmnoaaGreatDoorWJ
import Derived.Test.YtdfkapehjmmnoaaGreatDoorQW
import Derived.Deep.Cut
import Derived.Deep.DeepCutAuto
namespace Go.Proofs.YtdfkapehjmmnoaaGreatDoor
open _root_.Go.Value renaming int → V, slice → O
open _root_.Go.IntKind renaming i64 → J, u64 → U
section
open Go.RowKit Go.ChangeShapes Go.WideShapes Go.ChangeAt
namespace Pk
open Oc
theorem text_byte {x : List Nat} (h : ∀ y ∈ x, y < 256) : ∀ y ∈ cText.enc x, y < 256 := by
  intro y hy
  rcases List.mem_append.1 (show y ∈ puts x.length ++ x from hy) with hy | hy
  · exact puts_byte _ y hy
  · exact h y hy
set_option maxRecDepth 100000 in
set_option maxHeartbeats 1000000 in
theorem putText_any (x : List Nat) (w : World) (hx : x.length ≤ 140737488351232) (hb8 : ∀ y ∈ x, y < 256) :
    Calls Tryz.prog 52 #[O none 0 0, .string (bstr x)] w (Own (cText.enc x) w) := by
  obtain ⟨hbs, hk⟩ := bytes_of_text w x hb8
  have hcv := Lib.run_convert_string_bytes (P := Tryz.prog) w 9 23 5 (bstr x) Tryz.underlying9 Tryz.underlying23 Tryz.underlying5
  have hcap := grownCap_ge' w (bstr x).size 0 5
  have hsz : (Lib.bytesWorld w 5 (bstr x)).heap.size = w.heap.size + 1 := Lib.bytesWorld_size w _ _
  have hbw : Below w.heap.size w (Lib.bytesWorld w 5 (bstr x)) := hk.below (by simp) (Nat.le_refl _)
  have hrd := Rd.mk hbs (by rw [bstr_size]; unfold reach; omega) hcap
  rw [← hsz] at hrd
  have hbz := bstr_size x
  generalize Lib.bytesWorld w 5 (bstr x) = w0 at *
  generalize grownCap w (bstr x).size 0 5 = cap at *
  rw [hbz] at hcv hrd
  have H := Lib.hid (And.intro hbw hrd)
  clear hk hbw hrd hbs hsz hcap hbz
  go_enter Tryz.func52, Tryz.ntmps52
  go_wp2_with fail
  refine (putBytes_any none _ 0 0 x.length _ [] x _ (Rd.nil _ _) H.out.2 (by omega)).mono ?_
  rintro e w1 ⟨v, rfl, hown, hb⟩
  have HO := Lib.hid (And.intro hown hb)
  clear hown hb
  go_wp2_with fail
  go_ret
  exact ⟨v, rfl, own_base HO.out.1 H.out.1.size, H.out.1.trans (HO.out.2.mono H.out.1.size)⟩
theorem enters_putText : ∀ args w, Sem.run Tryz.prog (callFunc 52 args) w = .ok (.enter 52 args) w := fun _ _ => by kernel_rfl
theorem enters_PutEntry : ∀ args w, Sem.run Tryz.prog (callFunc 48 args) w = .ok (.enter 48 args) w := fun _ _ => by kernel_rfl
def soFar {α : Type} (c : Cd α) (d : List α) (k : Nat) : List Nat := puts d.length ++ encL c (d.take k)
theorem soFar_next {α : Type} (c : Cd α) (d : List α) (k : Nat) (h : k < d.length) : soFar c d (k + 1) = soFar c d k ++ c.enc d[k] := by
  unfold soFar
  rw [encL_take c d k h, List.append_assoc]
theorem soFar_all {α : Type} (c : Cd α) (d : List α) : soFar c d d.length = (cList c).enc d := by
  unfold soFar
  rw [List.take_length]
  rfl
theorem soFar_le {α : Type} (c : Cd α) (d : List α) (k : Nat) (h : k < d.length) : (soFar c d k).length + (c.enc d[k]).length ≤ ((cList c).enc d).length := by
  show _ ≤ (puts d.length ++ encL c d).length
  rw [encL_split c d k h]
  unfold soFar
  simp only [List.length_append]
  omega
set_option maxRecDepth 100000 in
set_option maxHeartbeats 1000000 in
theorem putNames_any (A : Option Addr) (cp : Nat) (d : List (List Nat)) (w : World) (hr : rNames w [] [.slice A d.length cp] d) (hm : (cNames.enc d).length ≤ far) :
    Calls Tryz.prog 53 #[.slice A d.length cp, .func (.func 52) #[] #[]] w (Own (cNames.enc d) w) := by
  have en := enters_putText
  have hn : d.length ≤ 140737488355328 := by obtain ⟨_, _, _, _, hl, _⟩ := hr; exact hl
  have hall := soFar_all cText d
  obtain ⟨n, hdn⟩ : ∃ n, d.length = n := ⟨_, rfl⟩
  rw [hdn] at hn ⊢
  have h0 : soFar cText d 0 = puts n := by rw [← hdn]; simp [soFar, encL]
  have hT : Hid (∀ k (h : k < d.length), (soFar cText d k).length + (cText.enc d[k]).length ≤ far) := Lib.hid fun k h => Nat.le_trans (soFar_le cText d k h) hm
  have HR := Lib.hid (And.intro hr (And.intro hdn (And.intro hall h0)))
  clear hr hdn hall h0 hm
  go_enter Tryz.func53, Tryz.ntmps53
  go_wp2_with fail
  refine (put_any none 0 0 0 n [] (by omega) (by omega) _ (Bs.nil _ _ _) (Nat.zero_le _)).mono ?_
  rintro e w1 ⟨v1, rfl, hown1, hb1⟩
  rw [List.nil_append] at hown1
  go_wp2_with fail
  go_loopw [5, 14] (fun s i wr => ∃ k : Nat, k ≤ n ∧ i = V J k ∧ wr.ownsRow w.heap.size 5 1 s (soFar cText d k).length (by8 (soFar cText d k)) ∧ Below w.heap.size w wr) (fun _ i _ => n - (intOf i).toNat)
  case atStart => exact ⟨0, by omega, rfl, by rw [HR.out.2.2.2]; exact hown1, hb1⟩
  case round =>
    obtain ⟨k, hk, rfl, hown, hbl⟩ := hrel
    clear hown1 hb1
    by_cases hlt : k < n
    · have hkd : k < d.length := by rw [HR.out.2.1]; exact hlt
      have hru := rok_names.kept (X' := []) HR.out.1 (Keeps.of_below [] hbl) (by simp) (by simp)
      obtain ⟨A', c', hcs, _, _, hru⟩ := hru
      have hA : A = A' := by
        injection hcs with hcs _
        injection hcs
      obtain ⟨b, off, hAb, hb, hbx, hel⟩ := hru (by omega)
      obtain ⟨us, hu, hcu⟩ := hel k hkd
      rw [← hA] at hAb
      clear hcs hA hru
      subst hAb
      obtain ⟨rfl, hx1, hx2⟩ := hu
      have hcell := hcu 0 _ rfl
      rw [Nat.mul_one, Nat.add_zero] at hcell
      have hle := hT.out k hkd
      have hnx := soFar_next cText d k hkd
      obtain ⟨x, hx⟩ : ∃ x, d[k] = x := ⟨_, rfl⟩
      rw [hx] at hcell hx1 hx2 hle hnx
      have hby := text_byte hx2
      have HX := Lib.hid (And.intro hnx (And.intro hle hby))
      have hsz := hbl.size
      clear hcu hel hbx hle hnx hby hx
      go_wp2_with fail
      refine (putText_any x _ hx1 hx2).mono ?_
      rintro e w2 ⟨v2, rfl, hown2, hb2⟩
      obtain ⟨A2, c2, rfl, hbs2⟩ := Bs.of_own hown2 HX.out.2.2
      have hown3 := own_kept hown (Keeps.of_below [] hb2) (by simp)
      have hbl3 := hbl.trans (hb2.mono hsz)
      have hsz3 := hbl3.size
      have hle3 : (soFar cText d k).length + (cText.enc x).length ≤ 140737488355328 := HX.out.2.1
      clear hown hb2 hown2 hbl
      go_wp2_with (at_builtin; refine wpList_append_bytes rfl (.tmp 18) (.tmp 21) _ rfl w.heap.size 5 Tryz.underlying23 b_info _ _ _ rfl hown3 c2 rfl hbs2 hle3 hsz3 ?_; intro v' w' hown' hg)
      have hq := fun k hk => (hown3.lt k hk).1
      have hown4 : w'.ownsRow w.heap.size 5 1 v' (soFar cText d (k + 1)).length (by8 (soFar cText d (k + 1))) := by
        rw [HX.out.1, List.length_append, by8_append]
        exact hown'
      have hbl4 := hbl3.grown hg hsz3 hq
      have K := Lib.hid (And.intro hown4 hbl4)
      clear hown' hown3 hown4 hbl3 hbl4 hbs2 hg hq
      go_wp2_with fail
      go_roundw
      case rel => exact ⟨k + 1, by omega, by go_num, K.out.1, K.out.2⟩
      case measure => simp [intOf]; omega
    · obtain rfl : n = k := by omega
      have hoo : wr.ownsRow w.heap.size 5 1 u5 (cNames.enc d).length (by8 (cNames.enc d)) := by
        have e : cNames.enc d = soFar cText d n := by rw [← HR.out.2.1]; exact HR.out.2.2.1.symm
        rw [e]
        exact hown
      have K := Lib.hid hoo
      clear hown hoo
      go_wp2_with fail
      go_ret
      exact ⟨_, rfl, K.out, hbl⟩
set_option maxRecDepth 100000 in
set_option maxHeartbeats 1000000 in
theorem putEntries_any (A : Option Addr) (cp : Nat) (d : List Entry) (w : World) (hr : rEntries w [] [.slice A d.length cp] d) (hm : (cEntries.enc d).length ≤ far) :
    Calls Tryz.prog 47 #[.slice A d.length cp, .func (.func 48) #[] #[]] w (Own (cEntries.enc d) w) := by
  have en := enters_PutEntry
  have hn : d.length ≤ 140737488355328 := by obtain ⟨_, _, _, _, hl, _⟩ := hr; exact hl
  have hall := soFar_all cEntry d
  have hty : ∀ a ∈ d, cEntry.typ a := (ty_list ty_entry hr).2
  obtain ⟨n, hdn⟩ : ∃ n, d.length = n := ⟨_, rfl⟩
  rw [hdn] at hn ⊢
  have h0 : soFar cEntry d 0 = puts n := by rw [← hdn]; simp [soFar, encL]
  have hT : Hid (∀ k (h : k < d.length), (soFar cEntry d k).length + (cEntry.enc d[k]).length ≤ far) := Lib.hid fun k h => Nat.le_trans (soFar_le cEntry d k h) hm
  have HR := Lib.hid (And.intro hr (And.intro hdn (And.intro hall (And.intro h0 hty))))
  clear hr hdn hall h0 hm hty
  go_enter Tryz.func47, Tryz.ntmps47
  go_wp2_with fail
  refine (put_any none 0 0 0 n [] (by omega) (by omega) _ (Bs.nil _ _ _) (Nat.zero_le _)).mono ?_
  rintro e w1 ⟨v1, rfl, hown1, hb1⟩
  rw [List.nil_append] at hown1
  go_wp2_with fail
  go_loopw [5, 14] (fun s i wr => ∃ k : Nat, k ≤ n ∧ i = V J k ∧ wr.ownsRow w.heap.size 5 1 s (soFar cEntry d k).length (by8 (soFar cEntry d k)) ∧ Below w.heap.size w wr) (fun _ i _ => n - (intOf i).toNat)
  case atStart => exact ⟨0, by omega, rfl, by rw [HR.out.2.2.2.1]; exact hown1, hb1⟩
  case round =>
    obtain ⟨k, hk, rfl, hown, hbl⟩ := hrel
    clear hown1 hb1
    by_cases hlt : k < n
    · have hkd : k < d.length := by rw [HR.out.2.1]; exact hlt
      have hru := rok_entries.kept (X' := []) HR.out.1 (Keeps.of_below [] hbl) (by simp) (by simp)
      obtain ⟨A', c', hcs, _, _, hru⟩ := hru
      have hA : A = A' := by
        injection hcs with hcs _
        injection hcs
      obtain ⟨b, off, hAb, hb, hbx, hel⟩ := hru (by omega)
      obtain ⟨us, hu, hcu⟩ := hel k hkd
      rw [← hA] at hAb
      clear hcs hA hru
      subst hAb
      have hle := hT.out k hkd
      have hnx := soFar_next cEntry d k hkd
      have hby := good_entry.byte _ (HR.out.2.2.2.2 _ (List.getElem_mem hkd))
      obtain ⟨x, hx⟩ : ∃ x, d[k] = x := ⟨_, rfl⟩
      rw [hx] at hu hle hnx hby
      have HX := Lib.hid (And.intro hnx (And.intro hle hby))
      have hsz := hbl.size
      have hul := rok_entry.size hu
      have HU : Hid (∀ j x, us[j]? = some x → wr.cell? ((⟨b, off + k * 21, none⟩ : Addr).add j) = some x) := Lib.hid fun j x hx => by
        have hadd : (⟨b, off + k * 21, none⟩ : Addr).add j = ⟨b, off + (k * 21 + j), none⟩ := by unfold Addr.add; split <;> simp_all [Nat.add_assoc]
        rw [hadd]
        exact hcu j x hx
      have hi1 : (Tryz.prog.info? 104).map (·.size) = some us.length := by rw [hul]; kernel_rfl
      have hus : us.toArray.size = 21 := by simp [hul]
      have hi2 : (Tryz.prog.info? 104).map (·.size) = some us.toArray.size := by rw [hus]; kernel_rfl
      have hi3 : (#[V U 0, V U 0, V J 0, V J 0, V U 0, V U 0, .string ⟨#[]⟩, V J 0, V .u32 0, V U 0, V U 0, V J 0, V J 0, .bool false, V U 0, V J 0, V U 0, V U 0, O none 0 0, O none 0 0, O none 0 0] : Array Value).size = us.toArray.size := by rw [hus]; rfl
      have hi4 : us.toArray.all (·.oneCell') = true := by simpa using rok_entry.one hu
      have HI := Lib.hid (And.intro hi1 (And.intro hi2 (And.intro hi3 hi4)))
      have hkz : Keeps [] wr ((wr.alloc (.cells #[V U 0, V U 0, V J 0, V J 0, V U 0, V U 0, .string ⟨#[]⟩, V J 0, V .u32 0, V U 0, V U 0, V J 0, V J 0, .bool false, V U 0, V J 0, V U 0, V U 0, O none 0 0, O none 0 0, O none 0 0] 104)).setRow wr.heap.size us.toArray) := ((Keeps.refl _ _).alloc _).setRow (.inr (Nat.le_refl _)) _
      have hu2 := rok_entry.kept (X' := []) hu hkz (by simp) (by simp)
      have HQ := Lib.hid (And.intro hkz hu2)
      clear hcu hel hi1 hi2 hi3 hi4 hus hkz hu2 hu hul hbx hle hnx hby hx
      go_wp2_with (first
        | (refine wpList_load_at rfl 104 _ rfl ⟨b, off + k * 21, none⟩ rfl us _ HU.out Tryz.underlying104 rfl HI.out.1 ?_)
        | (refine wpList_store_row rfl 104 _ _ rfl wr.heap.size us.toArray rfl rfl 104 #[V U 0, V U 0, V J 0, V J 0, V U 0, V U 0, .string ⟨#[]⟩, V J 0, V .u32 0, V U 0, V U 0, V J 0, V J 0, .bool false, V U 0, V J 0, V U 0, V U 0, O none 0 0, O none 0 0, O none 0 0] (heap_alloc_new _ _) HI.out.2.1 HI.out.2.2.1 HI.out.2.2.2 ?_)
        | (refine wpList_load_row rfl 104 _ rfl wr.heap.size rfl 104 us.toArray (0, 0) _ (setRow_heap _ _ _ _ _ _ (heap_alloc_new _ _)) Tryz.underlying104 rfl HI.out.2.1 ?_))
      refine (putEntry_any none 0 0 [] us x _ (Bs.nil _ _ _) ⟨Nat.le_refl _, by omega, fun _ => rfl⟩ HQ.out.2 (by have := HX.out.2.1; simp only [List.length_nil]; omega)).mono ?_
      rintro e w2 ⟨v2, rfl, hown2, hb2⟩
      rw [List.nil_append] at hown2
      obtain ⟨A2, c2, rfl, hbs2⟩ := Bs.of_own hown2 HX.out.2.2
      have hkk : Keeps [] wr w2 := HQ.out.1.then (Keeps.of_below [] hb2)
      have hown3 := own_kept hown hkk (by simp)
      have hbl3 := hbl.trans ((hkk.below (B := wr.heap.size) (by simp) (Nat.le_refl _)).mono hsz)
      have hsz3 := hbl3.size
      have hle3 : (soFar cEntry d k).length + (cEntry.enc x).length ≤ 140737488355328 := HX.out.2.1
      clear hown hb2 hown2 hbl hkk
      go_wp2_with (at_builtin; refine wpList_append_bytes rfl (.tmp 18) (.tmp 21) _ rfl w.heap.size 5 Tryz.underlying23 b_info _ _ _ rfl hown3 c2 rfl hbs2 hle3 hsz3 ?_; intro v' w' hown' hg)
      have hq := fun k hk => (hown3.lt k hk).1
      have hown4 : w'.ownsRow w.heap.size 5 1 v' (soFar cEntry d (k + 1)).length (by8 (soFar cEntry d (k + 1))) := by
        rw [HX.out.1, List.length_append, by8_append]
        exact hown'
      have hbl4 := hbl3.grown hg hsz3 hq
      have K := Lib.hid (And.intro hown4 hbl4)
      clear hown' hown3 hown4 hbl3 hbl4 hbs2 hg hq
      go_wp2_with fail
      go_roundw
      case rel => exact ⟨k + 1, by omega, by go_num, K.out.1, K.out.2⟩
      case measure => simp [intOf]; omega
    · obtain rfl : n = k := by omega
      have hoo : wr.ownsRow w.heap.size 5 1 u5 (cEntries.enc d).length (by8 (cEntries.enc d)) := by
        have e : cEntries.enc d = soFar cEntry d n := by rw [← HR.out.2.1]; exact HR.out.2.2.1.symm
        rw [e]
        exact hown
      have K := Lib.hid hoo
      clear hown hoo
      go_wp2_with fail
      go_ret
      exact ⟨_, rfl, K.out, hbl⟩
end Pk
end
section
open Go.RowKit Go.ChangeShapes Go.WideShapes Go.ChangeAt
namespace Pk
open Oc
theorem len_l (a b : List Nat) : a.length ≤ (a ++ b).length := by rw [List.length_append]; exact Nat.le_add_right _ _
theorem len_r {n : Nat} (a b : List Nat) (h : n ≤ b.length) : n ≤ (a ++ b).length := by rw [List.length_append]; exact Nat.le_trans h (Nat.le_add_left _ _)
def Piece (l : List Nat) (w : World) (v : Value) (w' : World) : Prop := Rd w' w'.heap.size v l ∧ Below w.heap.size w w'
theorem own_piece {F : FuncId} {args : Array Value} {l : List Nat} {w : World} (hl : ∀ x ∈ l, x < 256) (hn : l.length ≤ reach) (h : Calls Tryz.prog F args w (Own l w)) : Calls Tryz.prog F args w fun e w' => ∃ v, e = .returned v ∧ Piece l w v w' :=
  h.mono fun e w' ho => by
    obtain ⟨A, c, he, hb, hc, hbl⟩ := ho.gives hl
    exact ⟨_, he, ⟨A, c, rfl, hb, hn, hc⟩, hbl⟩
theorem putData_any (A : Option Addr) (c : Nat) (d : List Nat) (w : World) (h : rBytes w [] [.slice A d.length c] d) (hn : (cText.enc d).length ≤ reach) :
    Calls Tryz.prog 51 #[O none 0 0, .slice A d.length c] w (Own (cText.enc d) w) := by
  obtain ⟨A', c', he, hb, hc⟩ := h.bs
  have hl : d.length ≤ reach := by
    have : (puts d.length ++ d).length ≤ reach := hn
    rw [List.length_append] at this
    omega
  have hc' : d.length ≤ c := by
    injection he with he _
    injection he with _ _ e
    rw [e]
    exact hc
  have hb' : Bs w w.heap.size A d.length d := by
    injection he with he _
    injection he with e _ _
    rw [e]
    exact hb
  exact putBytes_any none A 0 0 d.length c [] d w (Rd.nil _ _) ⟨A, c, rfl, hb', hl, hc'⟩ (by unfold reach at hl; omega)
def Pcs (w : World) (vs : List Value) (M : List (List Nat)) : Prop := vs.length = M.length ∧ ∀ k, k < M.length → ∃ v, vs[k]? = some v ∧ Rd w w.heap.size v (M.getD k [])
theorem Pcs.nil (w : World) : Pcs w [] [] := ⟨rfl, fun k h => absurd h (by simp)⟩
theorem Pcs.snoc {w w' : World} {vs : List Value} {M : List (List Nat)} {v : Value} {l : List Nat} (h : Pcs w vs M) (hp : Piece l w v w') : Pcs w' (vs ++ [v]) (M ++ [l]) := by
  refine ⟨by simp [h.1], fun k hk => ?_⟩
  by_cases hk' : k < M.length
  · obtain ⟨u, hu, hr⟩ := h.2 k hk'
    refine ⟨u, by rw [List.getElem?_append_left (by rw [h.1]; exact hk')]; exact hu, ?_⟩
    rw [List.getD_eq_getElem?_getD, List.getElem?_append_left hk', ← List.getD_eq_getElem?_getD]
    exact hr.on hp.2
  · have : k = M.length := by simp at hk; omega
    subst this
    refine ⟨v, by rw [← h.1]; simp, ?_⟩
    rw [List.getD_eq_getElem?_getD]
    simpa using hp.1
theorem Pcs.ms {w : World} {vs : List Value} {M : List (List Nat)} (h : Pcs w vs M) (t : TypeId) : Ms (w.alloc (.cells vs.toArray t)) (w.alloc (.cells vs.toArray t)).heap.size (some ⟨w.heap.size, 0, none⟩) M.length M := by
  have hb : Below w.heap.size w (w.alloc (.cells vs.toArray t)) := (Below.refl _ _).alloc (Nat.le_refl _) _
  refine ⟨rfl, fun _ => ⟨w.heap.size, 0, rfl, by simp, fun k hk => ?_⟩⟩
  obtain ⟨v, hv, hr⟩ := h.2 k hk
  refine ⟨v, ?_, hr.on hb⟩
  rw [World.cell?_alloc_new]
  simpa using hv
def Joined (l : List Nat) (w : World) (v : Value) (w' : World) : Prop := w'.ownsRow w.heap.size 5 1 v l.length (by8 l) ∧ Below w.heap.size w w'
theorem concat20 (l0 l1 l2 l3 l4 l5 l6 l7 l8 l9 l10 l11 l12 l13 l14 l15 l16 l17 l18 l19 : List Nat) (hn : (l0 ++ (l1 ++ (l2 ++ (l3 ++ (l4 ++ (l5 ++ (l6 ++ (l7 ++ (l8 ++ (l9 ++ (l10 ++ (l11 ++ (l12 ++ (l13 ++ (l14 ++ (l15 ++ (l16 ++ (l17 ++ (l18 ++ (l19)))))))))))))))))))).length ≤ 1000000000) (A : Option Addr) (w : World) (h : Ms w w.heap.size A 20 [l0, l1, l2, l3, l4, l5, l6, l7, l8, l9, l10, l11, l12, l13, l14, l15, l16, l17, l18, l19]) : Calls Tryz.prog 38 #[.slice A 20 20] w fun e w' => ∃ v, e = .returned v ∧ Joined (l0 ++ (l1 ++ (l2 ++ (l3 ++ (l4 ++ (l5 ++ (l6 ++ (l7 ++ (l8 ++ (l9 ++ (l10 ++ (l11 ++ (l12 ++ (l13 ++ (l14 ++ (l15 ++ (l16 ++ (l17 ++ (l18 ++ (l19)))))))))))))))))))) w v w' := by
  have e : [l0, l1, l2, l3, l4, l5, l6, l7, l8, l9, l10, l11, l12, l13, l14, l15, l16, l17, l18, l19].flatten = l0 ++ (l1 ++ (l2 ++ (l3 ++ (l4 ++ (l5 ++ (l6 ++ (l7 ++ (l8 ++ (l9 ++ (l10 ++ (l11 ++ (l12 ++ (l13 ++ (l14 ++ (l15 ++ (l16 ++ (l17 ++ (l18 ++ (l19))))))))))))))))))) := by simp only [List.flatten_cons, List.flatten_nil, List.append_nil]
  have hc := Oc.concat_any A 20 20 _ _ (by omega) (by rw [e]; exact Nat.le_trans hn (by decide)) w h (Nat.le_refl _)
  rw [e] at hc
  exact hc
theorem parts20 (l0 l1 l2 l3 l4 l5 l6 l7 l8 l9 l10 l11 l12 l13 l14 l15 l16 l17 l18 l19 : List Nat) (hb : ∀ x ∈ l0 ++ (l1 ++ (l2 ++ (l3 ++ (l4 ++ (l5 ++ (l6 ++ (l7 ++ (l8 ++ (l9 ++ (l10 ++ (l11 ++ (l12 ++ (l13 ++ (l14 ++ (l15 ++ (l16 ++ (l17 ++ (l18 ++ (l19))))))))))))))))))), x < 256) (hn : (l0 ++ (l1 ++ (l2 ++ (l3 ++ (l4 ++ (l5 ++ (l6 ++ (l7 ++ (l8 ++ (l9 ++ (l10 ++ (l11 ++ (l12 ++ (l13 ++ (l14 ++ (l15 ++ (l16 ++ (l17 ++ (l18 ++ (l19)))))))))))))))))))).length ≤ 1000000000) : ((∀ x ∈ l0, x < 256) ∧ l0.length ≤ reach) ∧ ((∀ x ∈ l1, x < 256) ∧ l1.length ≤ reach) ∧ ((∀ x ∈ l2, x < 256) ∧ l2.length ≤ reach) ∧ ((∀ x ∈ l3, x < 256) ∧ l3.length ≤ reach) ∧ ((∀ x ∈ l4, x < 256) ∧ l4.length ≤ reach) ∧ ((∀ x ∈ l5, x < 256) ∧ l5.length ≤ reach) ∧ ((∀ x ∈ l6, x < 256) ∧ l6.length ≤ reach) ∧ ((∀ x ∈ l7, x < 256) ∧ l7.length ≤ reach) ∧ ((∀ x ∈ l8, x < 256) ∧ l8.length ≤ reach) ∧ ((∀ x ∈ l9, x < 256) ∧ l9.length ≤ reach) ∧ ((∀ x ∈ l10, x < 256) ∧ l10.length ≤ reach) ∧ ((∀ x ∈ l11, x < 256) ∧ l11.length ≤ reach) ∧ ((∀ x ∈ l12, x < 256) ∧ l12.length ≤ reach) ∧ ((∀ x ∈ l13, x < 256) ∧ l13.length ≤ reach) ∧ ((∀ x ∈ l14, x < 256) ∧ l14.length ≤ reach) ∧ ((∀ x ∈ l15, x < 256) ∧ l15.length ≤ reach) ∧ ((∀ x ∈ l16, x < 256) ∧ l16.length ≤ reach) ∧ ((∀ x ∈ l17, x < 256) ∧ l17.length ≤ reach) ∧ ((∀ x ∈ l18, x < 256) ∧ l18.length ≤ reach) ∧ ((∀ x ∈ l19, x < 256) ∧ l19.length ≤ reach) := by
  have hmr := Nat.le_trans hn (show 1000000000 ≤ reach by decide)
  exact ⟨⟨fun x hx => hb x (List.mem_append_left _ hx), Nat.le_trans (len_l _ _) hmr⟩, ⟨fun x hx => hb x (List.mem_append_right _ (List.mem_append_left _ hx)), Nat.le_trans (len_r _ _ (len_l _ _)) hmr⟩, ⟨fun x hx => hb x (List.mem_append_right _ (List.mem_append_right _ (List.mem_append_left _ hx))), Nat.le_trans (len_r _ _ (len_r _ _ (len_l _ _))) hmr⟩, ⟨fun x hx => hb x (List.mem_append_right _ (List.mem_append_right _ (List.mem_append_right _ (List.mem_append_left _ hx)))), Nat.le_trans (len_r _ _ (len_r _ _ (len_r _ _ (len_l _ _)))) hmr⟩, ⟨fun x hx => hb x (List.mem_append_right _ (List.mem_append_right _ (List.mem_append_right _ (List.mem_append_right _ (List.mem_append_left _ hx))))), Nat.le_trans (len_r _ _ (len_r _ _ (len_r _ _ (len_r _ _ (len_l _ _))))) hmr⟩, ⟨fun x hx => hb x (List.mem_append_right _ (List.mem_append_right _ (List.mem_append_right _ (List.mem_append_right _ (List.mem_append_right _ (List.mem_append_left _ hx)))))), Nat.le_trans (len_r _ _ (len_r _ _ (len_r _ _ (len_r _ _ (len_r _ _ (len_l _ _)))))) hmr⟩, ⟨fun x hx => hb x (List.mem_append_right _ (List.mem_append_right _ (List.mem_append_right _ (List.mem_append_right _ (List.mem_append_right _ (List.mem_append_right _ (List.mem_append_left _ hx))))))), Nat.le_trans (len_r _ _ (len_r _ _ (len_r _ _ (len_r _ _ (len_r _ _ (len_r _ _ (len_l _ _))))))) hmr⟩, ⟨fun x hx => hb x (List.mem_append_right _ (List.mem_append_right _ (List.mem_append_right _ (List.mem_append_right _ (List.mem_append_right _ (List.mem_append_right _ (List.mem_append_right _ (List.mem_append_left _ hx)))))))), Nat.le_trans (len_r _ _ (len_r _ _ (len_r _ _ (len_r _ _ (len_r _ _ (len_r _ _ (len_r _ _ (len_l _ _)))))))) hmr⟩, ⟨fun x hx => hb x (List.mem_append_right _ (List.mem_append_right _ (List.mem_append_right _ (List.mem_append_right _ (List.mem_append_right _ (List.mem_append_right _ (List.mem_append_right _ (List.mem_append_right _ (List.mem_append_left _ hx))))))))), Nat.le_trans (len_r _ _ (len_r _ _ (len_r _ _ (len_r _ _ (len_r _ _ (len_r _ _ (len_r _ _ (len_r _ _ (len_l _ _))))))))) hmr⟩, ⟨fun x hx => hb x (List.mem_append_right _ (List.mem_append_right _ (List.mem_append_right _ (List.mem_append_right _ (List.mem_append_right _ (List.mem_append_right _ (List.mem_append_right _ (List.mem_append_right _ (List.mem_append_right _ (List.mem_append_left _ hx)))))))))), Nat.le_trans (len_r _ _ (len_r _ _ (len_r _ _ (len_r _ _ (len_r _ _ (len_r _ _ (len_r _ _ (len_r _ _ (len_r _ _ (len_l _ _)))))))))) hmr⟩, ⟨fun x hx => hb x (List.mem_append_right _ (List.mem_append_right _ (List.mem_append_right _ (List.mem_append_right _ (List.mem_append_right _ (List.mem_append_right _ (List.mem_append_right _ (List.mem_append_right _ (List.mem_append_right _ (List.mem_append_right _ (List.mem_append_left _ hx))))))))))), Nat.le_trans (len_r _ _ (len_r _ _ (len_r _ _ (len_r _ _ (len_r _ _ (len_r _ _ (len_r _ _ (len_r _ _ (len_r _ _ (len_r _ _ (len_l _ _))))))))))) hmr⟩, ⟨fun x hx => hb x (List.mem_append_right _ (List.mem_append_right _ (List.mem_append_right _ (List.mem_append_right _ (List.mem_append_right _ (List.mem_append_right _ (List.mem_append_right _ (List.mem_append_right _ (List.mem_append_right _ (List.mem_append_right _ (List.mem_append_right _ (List.mem_append_left _ hx)))))))))))), Nat.le_trans (len_r _ _ (len_r _ _ (len_r _ _ (len_r _ _ (len_r _ _ (len_r _ _ (len_r _ _ (len_r _ _ (len_r _ _ (len_r _ _ (len_r _ _ (len_l _ _)))))))))))) hmr⟩, ⟨fun x hx => hb x (List.mem_append_right _ (List.mem_append_right _ (List.mem_append_right _ (List.mem_append_right _ (List.mem_append_right _ (List.mem_append_right _ (List.mem_append_right _ (List.mem_append_right _ (List.mem_append_right _ (List.mem_append_right _ (List.mem_append_right _ (List.mem_append_right _ (List.mem_append_left _ hx))))))))))))), Nat.le_trans (len_r _ _ (len_r _ _ (len_r _ _ (len_r _ _ (len_r _ _ (len_r _ _ (len_r _ _ (len_r _ _ (len_r _ _ (len_r _ _ (len_r _ _ (len_r _ _ (len_l _ _))))))))))))) hmr⟩, ⟨fun x hx => hb x (List.mem_append_right _ (List.mem_append_right _ (List.mem_append_right _ (List.mem_append_right _ (List.mem_append_right _ (List.mem_append_right _ (List.mem_append_right _ (List.mem_append_right _ (List.mem_append_right _ (List.mem_append_right _ (List.mem_append_right _ (List.mem_append_right _ (List.mem_append_right _ (List.mem_append_left _ hx)))))))))))))), Nat.le_trans (len_r _ _ (len_r _ _ (len_r _ _ (len_r _ _ (len_r _ _ (len_r _ _ (len_r _ _ (len_r _ _ (len_r _ _ (len_r _ _ (len_r _ _ (len_r _ _ (len_r _ _ (len_l _ _)))))))))))))) hmr⟩, ⟨fun x hx => hb x (List.mem_append_right _ (List.mem_append_right _ (List.mem_append_right _ (List.mem_append_right _ (List.mem_append_right _ (List.mem_append_right _ (List.mem_append_right _ (List.mem_append_right _ (List.mem_append_right _ (List.mem_append_right _ (List.mem_append_right _ (List.mem_append_right _ (List.mem_append_right _ (List.mem_append_right _ (List.mem_append_left _ hx))))))))))))))), Nat.le_trans (len_r _ _ (len_r _ _ (len_r _ _ (len_r _ _ (len_r _ _ (len_r _ _ (len_r _ _ (len_r _ _ (len_r _ _ (len_r _ _ (len_r _ _ (len_r _ _ (len_r _ _ (len_r _ _ (len_l _ _))))))))))))))) hmr⟩, ⟨fun x hx => hb x (List.mem_append_right _ (List.mem_append_right _ (List.mem_append_right _ (List.mem_append_right _ (List.mem_append_right _ (List.mem_append_right _ (List.mem_append_right _ (List.mem_append_right _ (List.mem_append_right _ (List.mem_append_right _ (List.mem_append_right _ (List.mem_append_right _ (List.mem_append_right _ (List.mem_append_right _ (List.mem_append_right _ (List.mem_append_left _ hx)))))))))))))))), Nat.le_trans (len_r _ _ (len_r _ _ (len_r _ _ (len_r _ _ (len_r _ _ (len_r _ _ (len_r _ _ (len_r _ _ (len_r _ _ (len_r _ _ (len_r _ _ (len_r _ _ (len_r _ _ (len_r _ _ (len_r _ _ (len_l _ _)))))))))))))))) hmr⟩, ⟨fun x hx => hb x (List.mem_append_right _ (List.mem_append_right _ (List.mem_append_right _ (List.mem_append_right _ (List.mem_append_right _ (List.mem_append_right _ (List.mem_append_right _ (List.mem_append_right _ (List.mem_append_right _ (List.mem_append_right _ (List.mem_append_right _ (List.mem_append_right _ (List.mem_append_right _ (List.mem_append_right _ (List.mem_append_right _ (List.mem_append_right _ (List.mem_append_left _ hx))))))))))))))))), Nat.le_trans (len_r _ _ (len_r _ _ (len_r _ _ (len_r _ _ (len_r _ _ (len_r _ _ (len_r _ _ (len_r _ _ (len_r _ _ (len_r _ _ (len_r _ _ (len_r _ _ (len_r _ _ (len_r _ _ (len_r _ _ (len_r _ _ (len_l _ _))))))))))))))))) hmr⟩, ⟨fun x hx => hb x (List.mem_append_right _ (List.mem_append_right _ (List.mem_append_right _ (List.mem_append_right _ (List.mem_append_right _ (List.mem_append_right _ (List.mem_append_right _ (List.mem_append_right _ (List.mem_append_right _ (List.mem_append_right _ (List.mem_append_right _ (List.mem_append_right _ (List.mem_append_right _ (List.mem_append_right _ (List.mem_append_right _ (List.mem_append_right _ (List.mem_append_right _ (List.mem_append_left _ hx)))))))))))))))))), Nat.le_trans (len_r _ _ (len_r _ _ (len_r _ _ (len_r _ _ (len_r _ _ (len_r _ _ (len_r _ _ (len_r _ _ (len_r _ _ (len_r _ _ (len_r _ _ (len_r _ _ (len_r _ _ (len_r _ _ (len_r _ _ (len_r _ _ (len_r _ _ (len_l _ _)))))))))))))))))) hmr⟩, ⟨fun x hx => hb x (List.mem_append_right _ (List.mem_append_right _ (List.mem_append_right _ (List.mem_append_right _ (List.mem_append_right _ (List.mem_append_right _ (List.mem_append_right _ (List.mem_append_right _ (List.mem_append_right _ (List.mem_append_right _ (List.mem_append_right _ (List.mem_append_right _ (List.mem_append_right _ (List.mem_append_right _ (List.mem_append_right _ (List.mem_append_right _ (List.mem_append_right _ (List.mem_append_right _ (List.mem_append_left _ hx))))))))))))))))))), Nat.le_trans (len_r _ _ (len_r _ _ (len_r _ _ (len_r _ _ (len_r _ _ (len_r _ _ (len_r _ _ (len_r _ _ (len_r _ _ (len_r _ _ (len_r _ _ (len_r _ _ (len_r _ _ (len_r _ _ (len_r _ _ (len_r _ _ (len_r _ _ (len_r _ _ (len_l _ _))))))))))))))))))) hmr⟩, ⟨fun x hx => hb x (List.mem_append_right _ (List.mem_append_right _ (List.mem_append_right _ (List.mem_append_right _ (List.mem_append_right _ (List.mem_append_right _ (List.mem_append_right _ (List.mem_append_right _ (List.mem_append_right _ (List.mem_append_right _ (List.mem_append_right _ (List.mem_append_right _ (List.mem_append_right _ (List.mem_append_right _ (List.mem_append_right _ (List.mem_append_right _ (List.mem_append_right _ (List.mem_append_right _ (List.mem_append_right _ (hx)))))))))))))))))))), Nat.le_trans (len_r _ _ (len_r _ _ (len_r _ _ (len_r _ _ (len_r _ _ (len_r _ _ (len_r _ _ (len_r _ _ (len_r _ _ (len_r _ _ (len_r _ _ (len_r _ _ (len_r _ _ (len_r _ _ (len_r _ _ (len_r _ _ (len_r _ _ (len_r _ _ (len_r _ _ (Nat.le_refl _)))))))))))))))))))) hmr⟩⟩
set_option maxRecDepth 100000 in
set_option maxHeartbeats 4000000 in
theorem wput_at (kd fr tn : Int) (tm ix lt cm cx : Nat) (ok fo : Bool) (en : List Entry) (vo le : List Int) (hv : Nat) (hi : Int) (he : Nat) (hk hn hs : Int) (hu : Nat) (da : List Nat) (cl sq : Nat) (op : Int) (ky : List Nat) (co : Int) (nm : List (List Nat)) (Ae : Option Addr) (ce : Nat) (Av : Option Addr) (cv : Nat) (Al : Option Addr) (cl' : Nat) (Ad : Option Addr) (cd : Nat) (An : Option Addr) (cn : Nat) (w : World)
    (h : MsgAt w [] Ae ce Av cv Al cl' Ad cd An cn kd fr tn tm ix lt cm cx ok fo en vo le hv hi he hk hn hs hu da cl sq op ky co nm) (hm : (cMsg.enc (kd, fr, tn, tm, ix, lt, cm, cx, ok, fo, en, (vo, le), ((hv, hi, he), hk, hn, hs, hu), da, cl, sq, op, ky, co, nm)).length ≤ 1000000000) (hty : cMsg.typ (kd, fr, tn, tm, ix, lt, cm, cx, ok, fo, en, (vo, le), ((hv, hi, he), hk, hn, hs, hu), da, cl, sq, op, ky, co, nm)) :
    Calls Tryz.prog 26 #[.agg #[V J kd, V J fr, V J tn, V U tm, V U ix, V U lt, V U cm, V U cx, .bool ok, .bool fo, .slice Ae en.length ce, .slice Av vo.length cv, .slice Al le.length cl', V U hv, V J hi, V U he, V J hk, V J hn, V J hs, V .u32 hu, .slice Ad da.length cd, V U cl, V U sq, V J op, .string (bstr ky), V J co, .slice An nm.length cn]] w (Own (cMsg.enc (kd, fr, tn, tm, ix, lt, cm, cx, ok, fo, en, (vo, le), ((hv, hi, he), hk, hn, hs, hu), da, cl, sq, op, ky, co, nm)) w) := by
  have henc : cMsg.enc (kd, fr, tn, tm, ix, lt, cm, cx, ok, fo, en, (vo, le), ((hv, hi, he), hk, hn, hs, hu), da, cl, sq, op, ky, co, nm) = cInt.enc kd ++ (cInt.enc fr ++ (cInt.enc tn ++ (cNum.enc tm ++ (cNum.enc ix ++ (cNum.enc lt ++ (cNum.enc cm ++ (cNum.enc cx ++ (cFlag.enc ok ++ (cFlag.enc fo ++ (cEntries.enc en ++ (cConf.enc (vo, le) ++ (cHeader.enc ((hv, hi, he), hk, hn, hs, hu) ++ (cText.enc da ++ (cNum.enc cl ++ (cNum.enc sq ++ (cInt.enc op ++ (cText.enc ky ++ (cInt.enc co ++ (cNames.enc nm))))))))))))))))))) := rfl
  have hby := good_msg.byte _ hty
  rw [henc] at hm hby ⊢
  obtain ⟨⟨y0, z0⟩, ⟨y1, z1⟩, ⟨y2, z2⟩, ⟨y3, z3⟩, ⟨y4, z4⟩, ⟨y5, z5⟩, ⟨y6, z6⟩, ⟨y7, z7⟩, ⟨y8, z8⟩, ⟨y9, z9⟩, ⟨y10, z10⟩, ⟨y11, z11⟩, ⟨y12, z12⟩, ⟨y13, z13⟩, ⟨y14, z14⟩, ⟨y15, z15⟩, ⟨y16, z16⟩, ⟨y17, z17⟩, ⟨y18, z18⟩, ⟨y19, z19⟩⟩ := parts20 (cInt.enc kd) (cInt.enc fr) (cInt.enc tn) (cNum.enc tm) (cNum.enc ix) (cNum.enc lt) (cNum.enc cm) (cNum.enc cx) (cFlag.enc ok) (cFlag.enc fo) (cEntries.enc en) (cConf.enc (vo, le)) (cHeader.enc ((hv, hi, he), hk, hn, hs, hu)) (cText.enc da) (cNum.enc cl) (cNum.enc sq) (cInt.enc op) (cText.enc ky) (cInt.enc co) (cNames.enc nm) hby hm
  have hc20 := hm
  clear hby hm hty henc
  have k0 : Keeps [] w (w.alloc (.cells #[V J kd, V J fr, V J tn, V U tm, V U ix, V U lt, V U cm, V U cx, .bool ok, .bool fo, .slice Ae en.length ce, .slice Av vo.length cv, .slice Al le.length cl', V U hv, V J hi, V U he, V J hk, V J hn, V J hs, V .u32 hu, .slice Ad da.length cd, V U cl, V U sq, V J op, .string (bstr ky), V J co, .slice An nm.length cn] 47)) := (Keeps.refl _ _).alloc _
  have g0 : (w.alloc (.cells #[V J kd, V J fr, V J tn, V U tm, V U ix, V U lt, V U cm, V U cx, .bool ok, .bool fo, .slice Ae en.length ce, .slice Av vo.length cv, .slice Al le.length cl', V U hv, V J hi, V U he, V J hk, V J hn, V J hs, V .u32 hu, .slice Ad da.length cd, V U cl, V U sq, V J op, .string (bstr ky), V J co, .slice An nm.length cn] 47)).heap[w.heap.size]? = some (.cells #[V J kd, V J fr, V J tn, V U tm, V U ix, V U lt, V U cm, V U cx, .bool ok, .bool fo, .slice Ae en.length ce, .slice Av vo.length cv, .slice Al le.length cl', V U hv, V J hi, V U he, V J hk, V J hn, V J hs, V .u32 hu, .slice Ad da.length cd, V U cl, V U sq, V J op, .string (bstr ky), V J co, .slice An nm.length cn] 47 (0, 0)) := heap_alloc_new _ _
  have s0 : (w.alloc (.cells #[V J kd, V J fr, V J tn, V U tm, V U ix, V U lt, V U cm, V U cx, .bool ok, .bool fo, .slice Ae en.length ce, .slice Av vo.length cv, .slice Al le.length cl', V U hv, V J hi, V U he, V J hk, V J hn, V J hs, V .u32 hu, .slice Ad da.length cd, V U cl, V U sq, V J op, .string (bstr ky), V J co, .slice An nm.length cn] 47)).heap.size = w.heap.size + 1 := by simp
  have HT : Hid ((cInt.enc kd ++ (cInt.enc fr ++ (cInt.enc tn ++ (cNum.enc tm ++ (cNum.enc ix ++ (cNum.enc lt ++ (cNum.enc cm ++ (cNum.enc cx ++ (cFlag.enc ok ++ (cFlag.enc fo ++ (cEntries.enc en ++ (cConf.enc (vo, le) ++ (cHeader.enc ((hv, hi, he), hk, hn, hs, hu) ++ (cText.enc da ++ (cNum.enc cl ++ (cNum.enc sq ++ (cInt.enc op ++ (cText.enc ky ++ (cInt.enc co ++ (cNames.enc nm)))))))))))))))))))).length ≤ 140737488355328) := Lib.hid (Nat.le_trans hc20 (by decide))
  go_enter Tryz.func26, Tryz.ntmps26
  go_upto_region 1 with fail
  generalize w.alloc (.cells #[V J kd, V J fr, V J tn, V U tm, V U ix, V U lt, V U cm, V U cx, .bool ok, .bool fo, .slice Ae en.length ce, .slice Av vo.length cv, .slice Al le.length cl', V U hv, V J hi, V U he, V J hk, V J hn, V J hs, V .u32 hu, .slice Ad da.length cd, V U cl, V U sq, V J op, .string (bstr ky), V J co, .slice An nm.length cn] 47) = w0 at *
  have c0 : w0.cell? ⟨w.heap.size, 0, none⟩ = some (V J kd) := by rw [cell_of_row w0 w.heap.size 0 _ _ _ g0]; rfl
  have c1 : w0.cell? ⟨w.heap.size, 1, none⟩ = some (V J fr) := by rw [cell_of_row w0 w.heap.size 1 _ _ _ g0]; rfl
  have c2 : w0.cell? ⟨w.heap.size, 2, none⟩ = some (V J tn) := by rw [cell_of_row w0 w.heap.size 2 _ _ _ g0]; rfl
  have c3 : w0.cell? ⟨w.heap.size, 3, none⟩ = some (V U tm) := by rw [cell_of_row w0 w.heap.size 3 _ _ _ g0]; rfl
  have c4 : w0.cell? ⟨w.heap.size, 4, none⟩ = some (V U ix) := by rw [cell_of_row w0 w.heap.size 4 _ _ _ g0]; rfl
  have c5 : w0.cell? ⟨w.heap.size, 5, none⟩ = some (V U lt) := by rw [cell_of_row w0 w.heap.size 5 _ _ _ g0]; rfl
  have c6 : w0.cell? ⟨w.heap.size, 6, none⟩ = some (V U cm) := by rw [cell_of_row w0 w.heap.size 6 _ _ _ g0]; rfl
  have c7 : w0.cell? ⟨w.heap.size, 7, none⟩ = some (V U cx) := by rw [cell_of_row w0 w.heap.size 7 _ _ _ g0]; rfl
  have c8 : w0.cell? ⟨w.heap.size, 8, none⟩ = some (.bool ok) := by rw [cell_of_row w0 w.heap.size 8 _ _ _ g0]; rfl
  have c9 : w0.cell? ⟨w.heap.size, 9, none⟩ = some (.bool fo) := by rw [cell_of_row w0 w.heap.size 9 _ _ _ g0]; rfl
  have c10 : w0.cell? ⟨w.heap.size, 10, none⟩ = some (.slice Ae en.length ce) := by rw [cell_of_row w0 w.heap.size 10 _ _ _ g0]; rfl
  have c11 : w0.cell? ⟨w.heap.size, 11, none⟩ = some (.slice Av vo.length cv) := by rw [cell_of_row w0 w.heap.size 11 _ _ _ g0]; rfl
  have c12 : w0.cell? ⟨w.heap.size, 12, none⟩ = some (.slice Al le.length cl') := by rw [cell_of_row w0 w.heap.size 12 _ _ _ g0]; rfl
  have c13 : w0.cell? ⟨w.heap.size, 13, none⟩ = some (V U hv) := by rw [cell_of_row w0 w.heap.size 13 _ _ _ g0]; rfl
  have c14 : w0.cell? ⟨w.heap.size, 14, none⟩ = some (V J hi) := by rw [cell_of_row w0 w.heap.size 14 _ _ _ g0]; rfl
  have c15 : w0.cell? ⟨w.heap.size, 15, none⟩ = some (V U he) := by rw [cell_of_row w0 w.heap.size 15 _ _ _ g0]; rfl
  have c16 : w0.cell? ⟨w.heap.size, 16, none⟩ = some (V J hk) := by rw [cell_of_row w0 w.heap.size 16 _ _ _ g0]; rfl
  have c17 : w0.cell? ⟨w.heap.size, 17, none⟩ = some (V J hn) := by rw [cell_of_row w0 w.heap.size 17 _ _ _ g0]; rfl
  have c18 : w0.cell? ⟨w.heap.size, 18, none⟩ = some (V J hs) := by rw [cell_of_row w0 w.heap.size 18 _ _ _ g0]; rfl
  have c19 : w0.cell? ⟨w.heap.size, 19, none⟩ = some (V .u32 hu) := by rw [cell_of_row w0 w.heap.size 19 _ _ _ g0]; rfl
  have c20 : w0.cell? ⟨w.heap.size, 20, none⟩ = some (.slice Ad da.length cd) := by rw [cell_of_row w0 w.heap.size 20 _ _ _ g0]; rfl
  have c21 : w0.cell? ⟨w.heap.size, 21, none⟩ = some (V U cl) := by rw [cell_of_row w0 w.heap.size 21 _ _ _ g0]; rfl
  have c22 : w0.cell? ⟨w.heap.size, 22, none⟩ = some (V U sq) := by rw [cell_of_row w0 w.heap.size 22 _ _ _ g0]; rfl
  have c23 : w0.cell? ⟨w.heap.size, 23, none⟩ = some (V J op) := by rw [cell_of_row w0 w.heap.size 23 _ _ _ g0]; rfl
  have c24 : w0.cell? ⟨w.heap.size, 24, none⟩ = some (.string (bstr ky)) := by rw [cell_of_row w0 w.heap.size 24 _ _ _ g0]; rfl
  have c25 : w0.cell? ⟨w.heap.size, 25, none⟩ = some (V J co) := by rw [cell_of_row w0 w.heap.size 25 _ _ _ g0]; rfl
  have c26 : w0.cell? ⟨w.heap.size, 26, none⟩ = some (.slice An nm.length cn) := by rw [cell_of_row w0 w.heap.size 26 _ _ _ g0]; rfl
  have hlt : w.heap.size < w0.heap.size := by omega
  have hk0 : Keeps [] w0 w0.drew := (Keeps.refl _ _).drew
  have hp0 := Pcs.nil w0.drew
  refine wa_begin (S := fun wx => Keeps [] w0 wx) (by kernel_rfl) hk0 ?_
  refine wa_tk 0 3 (.pointer (some ⟨w.heap.size, 0, none⟩)) (by kernel_rfl) (fun _ _ => by kernel_rfl) hk0 ?_
  refine wa_tk 1 4 (V J kd) (by kernel_rfl) (fun wx hS => ex_load_cell 33 _ rfl ⟨w.heap.size, 0, none⟩ _ (by kernel_rfl) _ ((hS.cell (p := ⟨w.heap.size, 0, none⟩) hlt (by simp)).trans c0) Tryz.underlying33 rfl) hk0 ?_
  refine wa_tk 3 6 (.pointer (some ⟨w.heap.size, 1, none⟩)) (by kernel_rfl) (fun _ _ => by kernel_rfl) hk0 ?_
  refine wa_tk 4 7 (V J fr) (by kernel_rfl) (fun wx hS => ex_load_cell 3 _ rfl ⟨w.heap.size, 1, none⟩ _ (by kernel_rfl) _ ((hS.cell (p := ⟨w.heap.size, 1, none⟩) hlt (by simp)).trans c1) Tryz.underlying3 rfl) hk0 ?_
  refine wa_tk 6 9 (.pointer (some ⟨w.heap.size, 2, none⟩)) (by kernel_rfl) (fun _ _ => by kernel_rfl) hk0 ?_
  refine wa_tk 7 10 (V J tn) (by kernel_rfl) (fun wx hS => ex_load_cell 3 _ rfl ⟨w.heap.size, 2, none⟩ _ (by kernel_rfl) _ ((hS.cell (p := ⟨w.heap.size, 2, none⟩) hlt (by simp)).trans c2) Tryz.underlying3 rfl) hk0 ?_
  refine wa_tk 9 12 (.pointer (some ⟨w.heap.size, 3, none⟩)) (by kernel_rfl) (fun _ _ => by kernel_rfl) hk0 ?_
  refine wa_tk 10 13 (V U tm) (by kernel_rfl) (fun wx hS => ex_load_cell 34 _ rfl ⟨w.heap.size, 3, none⟩ _ (by kernel_rfl) _ ((hS.cell (p := ⟨w.heap.size, 3, none⟩) hlt (by simp)).trans c3) Tryz.underlying34 rfl) hk0 ?_
  refine wa_tk 12 15 (.pointer (some ⟨w.heap.size, 4, none⟩)) (by kernel_rfl) (fun _ _ => by kernel_rfl) hk0 ?_
  refine wa_tk 13 16 (V U ix) (by kernel_rfl) (fun wx hS => ex_load_cell 34 _ rfl ⟨w.heap.size, 4, none⟩ _ (by kernel_rfl) _ ((hS.cell (p := ⟨w.heap.size, 4, none⟩) hlt (by simp)).trans c4) Tryz.underlying34 rfl) hk0 ?_
  refine wa_tk 15 18 (.pointer (some ⟨w.heap.size, 5, none⟩)) (by kernel_rfl) (fun _ _ => by kernel_rfl) hk0 ?_
  refine wa_tk 16 19 (V U lt) (by kernel_rfl) (fun wx hS => ex_load_cell 34 _ rfl ⟨w.heap.size, 5, none⟩ _ (by kernel_rfl) _ ((hS.cell (p := ⟨w.heap.size, 5, none⟩) hlt (by simp)).trans c5) Tryz.underlying34 rfl) hk0 ?_
  refine wa_tk 18 21 (.pointer (some ⟨w.heap.size, 6, none⟩)) (by kernel_rfl) (fun _ _ => by kernel_rfl) hk0 ?_
  refine wa_tk 19 22 (V U cm) (by kernel_rfl) (fun wx hS => ex_load_cell 34 _ rfl ⟨w.heap.size, 6, none⟩ _ (by kernel_rfl) _ ((hS.cell (p := ⟨w.heap.size, 6, none⟩) hlt (by simp)).trans c6) Tryz.underlying34 rfl) hk0 ?_
  refine wa_tk 21 24 (.pointer (some ⟨w.heap.size, 7, none⟩)) (by kernel_rfl) (fun _ _ => by kernel_rfl) hk0 ?_
  refine wa_tk 22 25 (V U cx) (by kernel_rfl) (fun wx hS => ex_load_cell 34 _ rfl ⟨w.heap.size, 7, none⟩ _ (by kernel_rfl) _ ((hS.cell (p := ⟨w.heap.size, 7, none⟩) hlt (by simp)).trans c7) Tryz.underlying34 rfl) hk0 ?_
  refine wa_tk 24 27 (.pointer (some ⟨w.heap.size, 8, none⟩)) (by kernel_rfl) (fun _ _ => by kernel_rfl) hk0 ?_
  refine wa_tk 25 28 (.bool ok) (by kernel_rfl) (fun wx hS => ex_load_cell 4 _ rfl ⟨w.heap.size, 8, none⟩ _ (by kernel_rfl) _ ((hS.cell (p := ⟨w.heap.size, 8, none⟩) hlt (by simp)).trans c8) Tryz.underlying4 rfl) hk0 ?_
  refine wa_tk 27 30 (.pointer (some ⟨w.heap.size, 9, none⟩)) (by kernel_rfl) (fun _ _ => by kernel_rfl) hk0 ?_
  refine wa_tk 28 31 (.bool fo) (by kernel_rfl) (fun wx hS => ex_load_cell 4 _ rfl ⟨w.heap.size, 9, none⟩ _ (by kernel_rfl) _ ((hS.cell (p := ⟨w.heap.size, 9, none⟩) hlt (by simp)).trans c9) Tryz.underlying4 rfl) hk0 ?_
  refine wa_tk 30 33 (.pointer (some ⟨w.heap.size, 10, none⟩)) (by kernel_rfl) (fun _ _ => by kernel_rfl) hk0 ?_
  refine wa_tk 31 34 (.slice Ae en.length ce) (by kernel_rfl) (fun wx hS => ex_load_cell 35 _ rfl ⟨w.heap.size, 10, none⟩ _ (by kernel_rfl) _ ((hS.cell (p := ⟨w.heap.size, 10, none⟩) hlt (by simp)).trans c10) Tryz.underlying35 rfl) hk0 ?_
  refine wa_tk 33 36 (.pointer (some ⟨w.heap.size, 11, none⟩)) (by kernel_rfl) (fun _ _ => by kernel_rfl) hk0 ?_
  have l11 : ∀ wx, Keeps [] w0 wx → ∀ j x, ([.slice Av vo.length cv, .slice Al le.length cl'] : List Value)[j]? = some x → wx.cell? ((⟨w.heap.size, 11, none⟩ : Addr).add j) = some x := fun wx hS j x hx => by
    rcases j with _ | j
    · obtain rfl := Option.some.inj hx
      exact (hS.cell (p := ⟨w.heap.size, 11, none⟩) hlt (by simp)).trans c11
    rcases j with _ | j
    · obtain rfl := Option.some.inj hx
      exact (hS.cell (p := ⟨w.heap.size, 12, none⟩) hlt (by simp)).trans c12
    cases hx
  refine wa_tk 34 37 (.agg #[.slice Av vo.length cv, .slice Al le.length cl']) (by kernel_rfl) (fun wx hS => ex_load_at 37 _ rfl ⟨w.heap.size, 11, none⟩ (by kernel_rfl) [.slice Av vo.length cv, .slice Al le.length cl'] _ (l11 wx hS) Tryz.underlying37 rfl (by kernel_rfl)) hk0 ?_
  refine wa_tk 36 39 (.pointer (some ⟨w.heap.size, 13, none⟩)) (by kernel_rfl) (fun _ _ => by kernel_rfl) hk0 ?_
  have l12 : ∀ wx, Keeps [] w0 wx → ∀ j x, ([V U hv, V J hi, V U he, V J hk, V J hn, V J hs, V .u32 hu] : List Value)[j]? = some x → wx.cell? ((⟨w.heap.size, 13, none⟩ : Addr).add j) = some x := fun wx hS j x hx => by
    rcases j with _ | j
    · obtain rfl := Option.some.inj hx
      exact (hS.cell (p := ⟨w.heap.size, 13, none⟩) hlt (by simp)).trans c13
    rcases j with _ | j
    · obtain rfl := Option.some.inj hx
      exact (hS.cell (p := ⟨w.heap.size, 14, none⟩) hlt (by simp)).trans c14
    rcases j with _ | j
    · obtain rfl := Option.some.inj hx
      exact (hS.cell (p := ⟨w.heap.size, 15, none⟩) hlt (by simp)).trans c15
    rcases j with _ | j
    · obtain rfl := Option.some.inj hx
      exact (hS.cell (p := ⟨w.heap.size, 16, none⟩) hlt (by simp)).trans c16
    rcases j with _ | j
    · obtain rfl := Option.some.inj hx
      exact (hS.cell (p := ⟨w.heap.size, 17, none⟩) hlt (by simp)).trans c17
    rcases j with _ | j
    · obtain rfl := Option.some.inj hx
      exact (hS.cell (p := ⟨w.heap.size, 18, none⟩) hlt (by simp)).trans c18
    rcases j with _ | j
    · obtain rfl := Option.some.inj hx
      exact (hS.cell (p := ⟨w.heap.size, 19, none⟩) hlt (by simp)).trans c19
    cases hx
  refine wa_tk 37 40 (.agg #[V U hv, V J hi, V U he, V J hk, V J hn, V J hs, V .u32 hu]) (by kernel_rfl) (fun wx hS => ex_load_at 42 _ rfl ⟨w.heap.size, 13, none⟩ (by kernel_rfl) [V U hv, V J hi, V U he, V J hk, V J hn, V J hs, V .u32 hu] _ (l12 wx hS) Tryz.underlying42 rfl (by kernel_rfl)) hk0 ?_
  refine wa_tk 39 42 (.pointer (some ⟨w.heap.size, 20, none⟩)) (by kernel_rfl) (fun _ _ => by kernel_rfl) hk0 ?_
  refine wa_tk 40 43 (.slice Ad da.length cd) (by kernel_rfl) (fun wx hS => ex_load_cell 23 _ rfl ⟨w.heap.size, 20, none⟩ _ (by kernel_rfl) _ ((hS.cell (p := ⟨w.heap.size, 20, none⟩) hlt (by simp)).trans c20) Tryz.underlying23 rfl) hk0 ?_
  refine wa_tk 42 45 (.pointer (some ⟨w.heap.size, 21, none⟩)) (by kernel_rfl) (fun _ _ => by kernel_rfl) hk0 ?_
  refine wa_tk 43 46 (V U cl) (by kernel_rfl) (fun wx hS => ex_load_cell 34 _ rfl ⟨w.heap.size, 21, none⟩ _ (by kernel_rfl) _ ((hS.cell (p := ⟨w.heap.size, 21, none⟩) hlt (by simp)).trans c21) Tryz.underlying34 rfl) hk0 ?_
  refine wa_tk 45 48 (.pointer (some ⟨w.heap.size, 22, none⟩)) (by kernel_rfl) (fun _ _ => by kernel_rfl) hk0 ?_
  refine wa_tk 46 49 (V U sq) (by kernel_rfl) (fun wx hS => ex_load_cell 34 _ rfl ⟨w.heap.size, 22, none⟩ _ (by kernel_rfl) _ ((hS.cell (p := ⟨w.heap.size, 22, none⟩) hlt (by simp)).trans c22) Tryz.underlying34 rfl) hk0 ?_
  refine wa_tk 48 51 (.pointer (some ⟨w.heap.size, 23, none⟩)) (by kernel_rfl) (fun _ _ => by kernel_rfl) hk0 ?_
  refine wa_tk 49 52 (V J op) (by kernel_rfl) (fun wx hS => ex_load_cell 43 _ rfl ⟨w.heap.size, 23, none⟩ _ (by kernel_rfl) _ ((hS.cell (p := ⟨w.heap.size, 23, none⟩) hlt (by simp)).trans c23) Tryz.underlying43 rfl) hk0 ?_
  refine wa_tk 51 54 (.pointer (some ⟨w.heap.size, 24, none⟩)) (by kernel_rfl) (fun _ _ => by kernel_rfl) hk0 ?_
  refine wa_tk 52 55 (.string (bstr ky)) (by kernel_rfl) (fun wx hS => ex_load_cell 9 _ rfl ⟨w.heap.size, 24, none⟩ _ (by kernel_rfl) _ ((hS.cell (p := ⟨w.heap.size, 24, none⟩) hlt (by simp)).trans c24) Tryz.underlying9 rfl) hk0 ?_
  refine wa_tk 54 57 (.pointer (some ⟨w.heap.size, 25, none⟩)) (by kernel_rfl) (fun _ _ => by kernel_rfl) hk0 ?_
  refine wa_tk 55 58 (V J co) (by kernel_rfl) (fun wx hS => ex_load_cell 44 _ rfl ⟨w.heap.size, 25, none⟩ _ (by kernel_rfl) _ ((hS.cell (p := ⟨w.heap.size, 25, none⟩) hlt (by simp)).trans c25) Tryz.underlying44 rfl) hk0 ?_
  refine wa_tk 57 60 (.pointer (some ⟨w.heap.size, 26, none⟩)) (by kernel_rfl) (fun _ _ => by kernel_rfl) hk0 ?_
  refine wa_tk 58 61 (.slice An nm.length cn) (by kernel_rfl) (fun wx hS => ex_load_cell 45 _ rfl ⟨w.heap.size, 26, none⟩ _ (by kernel_rfl) _ ((hS.cell (p := ⟨w.heap.size, 26, none⟩) hlt (by simp)).trans c26) Tryz.underlying45 rfl) hk0 ?_
  refine wa_ready1 2 (by kernel_rfl) (na_call 2 5 44 #[O none 0 0, V J kd] (Piece (cInt.enc kd) w0.drew) (by kernel_rfl) (by kernel_rfl) (by kernel_rfl) (by kernel_rfl) (own_piece y0 z0 (putInt_any none 0 0 0 kd [] (by omega) h.kd'.1 h.kd'.2 w0.drew (Bs.nil _ _ _) (Nat.zero_le _))) ?_)
  rintro v w1 hpc
  have hk1 : Keeps [] w0 w1 := hk0.then (Keeps.of_below [] hpc.2)
  have hpc2 := hpc
  obtain ⟨⟨A0, m0, rfl, -⟩, -⟩ := hpc2
  have hp1 : Pcs w1 [.slice A0 (cInt.enc kd).length m0] [cInt.enc kd] := hp0.snoc hpc
  clear hpc
  refine ⟨hk1, ?_⟩
  clear hp0 hk0
  refine wa_ready1 5 (by kernel_rfl) (na_call 5 8 44 #[O none 0 0, V J fr] (Piece (cInt.enc fr) w1) (by kernel_rfl) (by kernel_rfl) (by kernel_rfl) (by kernel_rfl) (own_piece y1 z1 (putInt_any none 0 0 0 fr [] (by omega) h.fr'.1 h.fr'.2 w1 (Bs.nil _ _ _) (Nat.zero_le _))) ?_)
  rintro v w2 hpc
  have hk2 : Keeps [] w0 w2 := hk1.then (Keeps.of_below [] hpc.2)
  have hpc2 := hpc
  obtain ⟨⟨A1, m1, rfl, -⟩, -⟩ := hpc2
  have hp2 : Pcs w2 [.slice A0 (cInt.enc kd).length m0, .slice A1 (cInt.enc fr).length m1] [cInt.enc kd, cInt.enc fr] := hp1.snoc hpc
  clear hpc
  refine ⟨hk2, ?_⟩
  clear hp1 hk1
  refine wa_ready1 8 (by kernel_rfl) (na_call 8 11 44 #[O none 0 0, V J tn] (Piece (cInt.enc tn) w2) (by kernel_rfl) (by kernel_rfl) (by kernel_rfl) (by kernel_rfl) (own_piece y2 z2 (putInt_any none 0 0 0 tn [] (by omega) h.tn'.1 h.tn'.2 w2 (Bs.nil _ _ _) (Nat.zero_le _))) ?_)
  rintro v w3 hpc
  have hk3 : Keeps [] w0 w3 := hk2.then (Keeps.of_below [] hpc.2)
  have hpc2 := hpc
  obtain ⟨⟨A2, m2, rfl, -⟩, -⟩ := hpc2
  have hp3 : Pcs w3 [.slice A0 (cInt.enc kd).length m0, .slice A1 (cInt.enc fr).length m1, .slice A2 (cInt.enc tn).length m2] [cInt.enc kd, cInt.enc fr, cInt.enc tn] := hp2.snoc hpc
  clear hpc
  refine ⟨hk3, ?_⟩
  clear hp2 hk2
  refine wa_ready1 11 (by kernel_rfl) (na_call 11 14 45 #[O none 0 0, V U tm] (Piece (cNum.enc tm) w3) (by kernel_rfl) (by kernel_rfl) (by kernel_rfl) (by kernel_rfl) (own_piece y3 z3 (put_any none 0 0 0 tm [] (by omega) h.tm' w3 (Bs.nil _ _ _) (Nat.zero_le _))) ?_)
  rintro v w4 hpc
  have hk4 : Keeps [] w0 w4 := hk3.then (Keeps.of_below [] hpc.2)
  have hpc2 := hpc
  obtain ⟨⟨A3, m3, rfl, -⟩, -⟩ := hpc2
  have hp4 : Pcs w4 [.slice A0 (cInt.enc kd).length m0, .slice A1 (cInt.enc fr).length m1, .slice A2 (cInt.enc tn).length m2, .slice A3 (cNum.enc tm).length m3] [cInt.enc kd, cInt.enc fr, cInt.enc tn, cNum.enc tm] := hp3.snoc hpc
  clear hpc
  refine ⟨hk4, ?_⟩
  clear hp3 hk3
  refine wa_ready1 14 (by kernel_rfl) (na_call 14 17 45 #[O none 0 0, V U ix] (Piece (cNum.enc ix) w4) (by kernel_rfl) (by kernel_rfl) (by kernel_rfl) (by kernel_rfl) (own_piece y4 z4 (put_any none 0 0 0 ix [] (by omega) h.ix' w4 (Bs.nil _ _ _) (Nat.zero_le _))) ?_)
  rintro v w5 hpc
  have hk5 : Keeps [] w0 w5 := hk4.then (Keeps.of_below [] hpc.2)
  have hpc2 := hpc
  obtain ⟨⟨A4, m4, rfl, -⟩, -⟩ := hpc2
  have hp5 : Pcs w5 [.slice A0 (cInt.enc kd).length m0, .slice A1 (cInt.enc fr).length m1, .slice A2 (cInt.enc tn).length m2, .slice A3 (cNum.enc tm).length m3, .slice A4 (cNum.enc ix).length m4] [cInt.enc kd, cInt.enc fr, cInt.enc tn, cNum.enc tm, cNum.enc ix] := hp4.snoc hpc
  clear hpc
  refine ⟨hk5, ?_⟩
  clear hp4 hk4
  refine wa_ready1 17 (by kernel_rfl) (na_call 17 20 45 #[O none 0 0, V U lt] (Piece (cNum.enc lt) w5) (by kernel_rfl) (by kernel_rfl) (by kernel_rfl) (by kernel_rfl) (own_piece y5 z5 (put_any none 0 0 0 lt [] (by omega) h.lt' w5 (Bs.nil _ _ _) (Nat.zero_le _))) ?_)
  rintro v w6 hpc
  have hk6 : Keeps [] w0 w6 := hk5.then (Keeps.of_below [] hpc.2)
  have hpc2 := hpc
  obtain ⟨⟨A5, m5, rfl, -⟩, -⟩ := hpc2
  have hp6 : Pcs w6 [.slice A0 (cInt.enc kd).length m0, .slice A1 (cInt.enc fr).length m1, .slice A2 (cInt.enc tn).length m2, .slice A3 (cNum.enc tm).length m3, .slice A4 (cNum.enc ix).length m4, .slice A5 (cNum.enc lt).length m5] [cInt.enc kd, cInt.enc fr, cInt.enc tn, cNum.enc tm, cNum.enc ix, cNum.enc lt] := hp5.snoc hpc
  clear hpc
  refine ⟨hk6, ?_⟩
  clear hp5 hk5
  refine wa_ready1 20 (by kernel_rfl) (na_call 20 23 45 #[O none 0 0, V U cm] (Piece (cNum.enc cm) w6) (by kernel_rfl) (by kernel_rfl) (by kernel_rfl) (by kernel_rfl) (own_piece y6 z6 (put_any none 0 0 0 cm [] (by omega) h.cm' w6 (Bs.nil _ _ _) (Nat.zero_le _))) ?_)
  rintro v w7 hpc
  have hk7 : Keeps [] w0 w7 := hk6.then (Keeps.of_below [] hpc.2)
  have hpc2 := hpc
  obtain ⟨⟨A6, m6, rfl, -⟩, -⟩ := hpc2
  have hp7 : Pcs w7 [.slice A0 (cInt.enc kd).length m0, .slice A1 (cInt.enc fr).length m1, .slice A2 (cInt.enc tn).length m2, .slice A3 (cNum.enc tm).length m3, .slice A4 (cNum.enc ix).length m4, .slice A5 (cNum.enc lt).length m5, .slice A6 (cNum.enc cm).length m6] [cInt.enc kd, cInt.enc fr, cInt.enc tn, cNum.enc tm, cNum.enc ix, cNum.enc lt, cNum.enc cm] := hp6.snoc hpc
  clear hpc
  refine ⟨hk7, ?_⟩
  clear hp6 hk6
  refine wa_ready1 23 (by kernel_rfl) (na_call 23 26 45 #[O none 0 0, V U cx] (Piece (cNum.enc cx) w7) (by kernel_rfl) (by kernel_rfl) (by kernel_rfl) (by kernel_rfl) (own_piece y7 z7 (put_any none 0 0 0 cx [] (by omega) h.cx' w7 (Bs.nil _ _ _) (Nat.zero_le _))) ?_)
  rintro v w8 hpc
  have hk8 : Keeps [] w0 w8 := hk7.then (Keeps.of_below [] hpc.2)
  have hpc2 := hpc
  obtain ⟨⟨A7, m7, rfl, -⟩, -⟩ := hpc2
  have hp8 : Pcs w8 [.slice A0 (cInt.enc kd).length m0, .slice A1 (cInt.enc fr).length m1, .slice A2 (cInt.enc tn).length m2, .slice A3 (cNum.enc tm).length m3, .slice A4 (cNum.enc ix).length m4, .slice A5 (cNum.enc lt).length m5, .slice A6 (cNum.enc cm).length m6, .slice A7 (cNum.enc cx).length m7] [cInt.enc kd, cInt.enc fr, cInt.enc tn, cNum.enc tm, cNum.enc ix, cNum.enc lt, cNum.enc cm, cNum.enc cx] := hp7.snoc hpc
  clear hpc
  refine ⟨hk8, ?_⟩
  clear hp7 hk7
  refine wa_ready1 26 (by kernel_rfl) (na_call 26 29 46 #[O none 0 0, .bool ok] (Piece (cFlag.enc ok) w8) (by kernel_rfl) (by kernel_rfl) (by kernel_rfl) (by kernel_rfl) (own_piece y8 z8 (putFlag_any none 0 0 ok [] w8 (Rd.nil _ _) (by omega))) ?_)
  rintro v w9 hpc
  have hk9 : Keeps [] w0 w9 := hk8.then (Keeps.of_below [] hpc.2)
  have hpc2 := hpc
  obtain ⟨⟨A8, m8, rfl, -⟩, -⟩ := hpc2
  have hp9 : Pcs w9 [.slice A0 (cInt.enc kd).length m0, .slice A1 (cInt.enc fr).length m1, .slice A2 (cInt.enc tn).length m2, .slice A3 (cNum.enc tm).length m3, .slice A4 (cNum.enc ix).length m4, .slice A5 (cNum.enc lt).length m5, .slice A6 (cNum.enc cm).length m6, .slice A7 (cNum.enc cx).length m7, .slice A8 (cFlag.enc ok).length m8] [cInt.enc kd, cInt.enc fr, cInt.enc tn, cNum.enc tm, cNum.enc ix, cNum.enc lt, cNum.enc cm, cNum.enc cx, cFlag.enc ok] := hp8.snoc hpc
  clear hpc
  refine ⟨hk9, ?_⟩
  clear hp8 hk8
  refine wa_ready1 29 (by kernel_rfl) (na_call 29 32 46 #[O none 0 0, .bool fo] (Piece (cFlag.enc fo) w9) (by kernel_rfl) (by kernel_rfl) (by kernel_rfl) (by kernel_rfl) (own_piece y9 z9 (putFlag_any none 0 0 fo [] w9 (Rd.nil _ _) (by omega))) ?_)
  rintro v w10 hpc
  have hk10 : Keeps [] w0 w10 := hk9.then (Keeps.of_below [] hpc.2)
  have hpc2 := hpc
  obtain ⟨⟨A9, m9, rfl, -⟩, -⟩ := hpc2
  have hp10 : Pcs w10 [.slice A0 (cInt.enc kd).length m0, .slice A1 (cInt.enc fr).length m1, .slice A2 (cInt.enc tn).length m2, .slice A3 (cNum.enc tm).length m3, .slice A4 (cNum.enc ix).length m4, .slice A5 (cNum.enc lt).length m5, .slice A6 (cNum.enc cm).length m6, .slice A7 (cNum.enc cx).length m7, .slice A8 (cFlag.enc ok).length m8, .slice A9 (cFlag.enc fo).length m9] [cInt.enc kd, cInt.enc fr, cInt.enc tn, cNum.enc tm, cNum.enc ix, cNum.enc lt, cNum.enc cm, cNum.enc cx, cFlag.enc ok, cFlag.enc fo] := hp9.snoc hpc
  clear hpc
  refine ⟨hk10, ?_⟩
  clear hp9 hk9
  refine wa_ready1 32 (by kernel_rfl) (na_call 32 35 47 #[.slice Ae en.length ce, .func (.func 48) #[] #[]] (Piece (cEntries.enc en) w10) (by kernel_rfl) (by kernel_rfl) (by kernel_rfl) (by kernel_rfl) (own_piece y10 z10 (putEntries_any Ae ce en w10 (rok_entries.kept (X' := []) h.en' (k0.then hk10) (by simp) (by simp)) (Nat.le_trans z10 (by decide)))) ?_)
  rintro v w11 hpc
  have hk11 : Keeps [] w0 w11 := hk10.then (Keeps.of_below [] hpc.2)
  have hpc2 := hpc
  obtain ⟨⟨A10, m10, rfl, -⟩, -⟩ := hpc2
  have hp11 : Pcs w11 [.slice A0 (cInt.enc kd).length m0, .slice A1 (cInt.enc fr).length m1, .slice A2 (cInt.enc tn).length m2, .slice A3 (cNum.enc tm).length m3, .slice A4 (cNum.enc ix).length m4, .slice A5 (cNum.enc lt).length m5, .slice A6 (cNum.enc cm).length m6, .slice A7 (cNum.enc cx).length m7, .slice A8 (cFlag.enc ok).length m8, .slice A9 (cFlag.enc fo).length m9, .slice A10 (cEntries.enc en).length m10] [cInt.enc kd, cInt.enc fr, cInt.enc tn, cNum.enc tm, cNum.enc ix, cNum.enc lt, cNum.enc cm, cNum.enc cx, cFlag.enc ok, cFlag.enc fo, cEntries.enc en] := hp10.snoc hpc
  clear hpc
  refine ⟨hk11, ?_⟩
  clear hp10 hk10
  refine wa_ready1 35 (by kernel_rfl) (na_call 35 38 49 #[O none 0 0, .agg #[.slice Av vo.length cv, .slice Al le.length cl']] (Piece (cConf.enc (vo, le)) w11) (by kernel_rfl) (by kernel_rfl) (by kernel_rfl) (by kernel_rfl) (own_piece y11 z11 (putConf_any none 0 0 [] [.slice Av vo.length cv, .slice Al le.length cl'] (vo, le) w11 (Bs.nil _ _ _) ⟨Nat.le_refl _, by omega, fun _ => rfl⟩ (rok_conf.kept (X' := []) h.cf' (k0.then hk11) (by simp) (by simp)) (by rw [List.length_nil, Nat.zero_add]; exact Nat.le_trans z11 (by decide)))) ?_)
  rintro v w12 hpc
  have hk12 : Keeps [] w0 w12 := hk11.then (Keeps.of_below [] hpc.2)
  have hpc2 := hpc
  obtain ⟨⟨A11, m11, rfl, -⟩, -⟩ := hpc2
  have hp12 : Pcs w12 [.slice A0 (cInt.enc kd).length m0, .slice A1 (cInt.enc fr).length m1, .slice A2 (cInt.enc tn).length m2, .slice A3 (cNum.enc tm).length m3, .slice A4 (cNum.enc ix).length m4, .slice A5 (cNum.enc lt).length m5, .slice A6 (cNum.enc cm).length m6, .slice A7 (cNum.enc cx).length m7, .slice A8 (cFlag.enc ok).length m8, .slice A9 (cFlag.enc fo).length m9, .slice A10 (cEntries.enc en).length m10, .slice A11 (cConf.enc (vo, le)).length m11] [cInt.enc kd, cInt.enc fr, cInt.enc tn, cNum.enc tm, cNum.enc ix, cNum.enc lt, cNum.enc cm, cNum.enc cx, cFlag.enc ok, cFlag.enc fo, cEntries.enc en, cConf.enc (vo, le)] := hp11.snoc hpc
  clear hpc
  refine ⟨hk12, ?_⟩
  clear hp11 hk11
  refine wa_ready1 38 (by kernel_rfl) (na_call 38 41 50 #[O none 0 0, .agg #[V U hv, V J hi, V U he, V J hk, V J hn, V J hs, V .u32 hu]] (Piece (cHeader.enc ((hv, hi, he), hk, hn, hs, hu)) w12) (by kernel_rfl) (by kernel_rfl) (by kernel_rfl) (by kernel_rfl) (own_piece y12 z12 (putHeader_any none 0 0 [] [V U hv, V J hi, V U he, V J hk, V J hn, V J hs, V .u32 hu] ((hv, hi, he), hk, hn, hs, hu) w12 (Bs.nil _ _ _) ⟨Nat.le_refl _, by omega, fun _ => rfl⟩ (rok_header.kept (X' := []) h.hd' (k0.then hk12) (by simp) (by simp)) (by rw [List.length_nil, Nat.zero_add]; exact Nat.le_trans z12 (by decide)))) ?_)
  rintro v w13 hpc
  have hk13 : Keeps [] w0 w13 := hk12.then (Keeps.of_below [] hpc.2)
  have hpc2 := hpc
  obtain ⟨⟨A12, m12, rfl, -⟩, -⟩ := hpc2
  have hp13 : Pcs w13 [.slice A0 (cInt.enc kd).length m0, .slice A1 (cInt.enc fr).length m1, .slice A2 (cInt.enc tn).length m2, .slice A3 (cNum.enc tm).length m3, .slice A4 (cNum.enc ix).length m4, .slice A5 (cNum.enc lt).length m5, .slice A6 (cNum.enc cm).length m6, .slice A7 (cNum.enc cx).length m7, .slice A8 (cFlag.enc ok).length m8, .slice A9 (cFlag.enc fo).length m9, .slice A10 (cEntries.enc en).length m10, .slice A11 (cConf.enc (vo, le)).length m11, .slice A12 (cHeader.enc ((hv, hi, he), hk, hn, hs, hu)).length m12] [cInt.enc kd, cInt.enc fr, cInt.enc tn, cNum.enc tm, cNum.enc ix, cNum.enc lt, cNum.enc cm, cNum.enc cx, cFlag.enc ok, cFlag.enc fo, cEntries.enc en, cConf.enc (vo, le), cHeader.enc ((hv, hi, he), hk, hn, hs, hu)] := hp12.snoc hpc
  clear hpc
  refine ⟨hk13, ?_⟩
  clear hp12 hk12
  refine wa_ready1 41 (by kernel_rfl) (na_call 41 44 51 #[O none 0 0, .slice Ad da.length cd] (Piece (cText.enc da) w13) (by kernel_rfl) (by kernel_rfl) (by kernel_rfl) (by kernel_rfl) (own_piece y13 z13 (putData_any Ad cd da w13 (rok_bytes.kept (X' := []) h.da' (k0.then hk13) (by simp) (by simp)) z13)) ?_)
  rintro v w14 hpc
  have hk14 : Keeps [] w0 w14 := hk13.then (Keeps.of_below [] hpc.2)
  have hpc2 := hpc
  obtain ⟨⟨A13, m13, rfl, -⟩, -⟩ := hpc2
  have hp14 : Pcs w14 [.slice A0 (cInt.enc kd).length m0, .slice A1 (cInt.enc fr).length m1, .slice A2 (cInt.enc tn).length m2, .slice A3 (cNum.enc tm).length m3, .slice A4 (cNum.enc ix).length m4, .slice A5 (cNum.enc lt).length m5, .slice A6 (cNum.enc cm).length m6, .slice A7 (cNum.enc cx).length m7, .slice A8 (cFlag.enc ok).length m8, .slice A9 (cFlag.enc fo).length m9, .slice A10 (cEntries.enc en).length m10, .slice A11 (cConf.enc (vo, le)).length m11, .slice A12 (cHeader.enc ((hv, hi, he), hk, hn, hs, hu)).length m12, .slice A13 (cText.enc da).length m13] [cInt.enc kd, cInt.enc fr, cInt.enc tn, cNum.enc tm, cNum.enc ix, cNum.enc lt, cNum.enc cm, cNum.enc cx, cFlag.enc ok, cFlag.enc fo, cEntries.enc en, cConf.enc (vo, le), cHeader.enc ((hv, hi, he), hk, hn, hs, hu), cText.enc da] := hp13.snoc hpc
  clear hpc
  refine ⟨hk14, ?_⟩
  clear hp13 hk13
  refine wa_ready1 44 (by kernel_rfl) (na_call 44 47 45 #[O none 0 0, V U cl] (Piece (cNum.enc cl) w14) (by kernel_rfl) (by kernel_rfl) (by kernel_rfl) (by kernel_rfl) (own_piece y14 z14 (put_any none 0 0 0 cl [] (by omega) h.cl'' w14 (Bs.nil _ _ _) (Nat.zero_le _))) ?_)
  rintro v w15 hpc
  have hk15 : Keeps [] w0 w15 := hk14.then (Keeps.of_below [] hpc.2)
  have hpc2 := hpc
  obtain ⟨⟨A14, m14, rfl, -⟩, -⟩ := hpc2
  have hp15 : Pcs w15 [.slice A0 (cInt.enc kd).length m0, .slice A1 (cInt.enc fr).length m1, .slice A2 (cInt.enc tn).length m2, .slice A3 (cNum.enc tm).length m3, .slice A4 (cNum.enc ix).length m4, .slice A5 (cNum.enc lt).length m5, .slice A6 (cNum.enc cm).length m6, .slice A7 (cNum.enc cx).length m7, .slice A8 (cFlag.enc ok).length m8, .slice A9 (cFlag.enc fo).length m9, .slice A10 (cEntries.enc en).length m10, .slice A11 (cConf.enc (vo, le)).length m11, .slice A12 (cHeader.enc ((hv, hi, he), hk, hn, hs, hu)).length m12, .slice A13 (cText.enc da).length m13, .slice A14 (cNum.enc cl).length m14] [cInt.enc kd, cInt.enc fr, cInt.enc tn, cNum.enc tm, cNum.enc ix, cNum.enc lt, cNum.enc cm, cNum.enc cx, cFlag.enc ok, cFlag.enc fo, cEntries.enc en, cConf.enc (vo, le), cHeader.enc ((hv, hi, he), hk, hn, hs, hu), cText.enc da, cNum.enc cl] := hp14.snoc hpc
  clear hpc
  refine ⟨hk15, ?_⟩
  clear hp14 hk14
  refine wa_ready1 47 (by kernel_rfl) (na_call 47 50 45 #[O none 0 0, V U sq] (Piece (cNum.enc sq) w15) (by kernel_rfl) (by kernel_rfl) (by kernel_rfl) (by kernel_rfl) (own_piece y15 z15 (put_any none 0 0 0 sq [] (by omega) h.sq' w15 (Bs.nil _ _ _) (Nat.zero_le _))) ?_)
  rintro v w16 hpc
  have hk16 : Keeps [] w0 w16 := hk15.then (Keeps.of_below [] hpc.2)
  have hpc2 := hpc
  obtain ⟨⟨A15, m15, rfl, -⟩, -⟩ := hpc2
  have hp16 : Pcs w16 [.slice A0 (cInt.enc kd).length m0, .slice A1 (cInt.enc fr).length m1, .slice A2 (cInt.enc tn).length m2, .slice A3 (cNum.enc tm).length m3, .slice A4 (cNum.enc ix).length m4, .slice A5 (cNum.enc lt).length m5, .slice A6 (cNum.enc cm).length m6, .slice A7 (cNum.enc cx).length m7, .slice A8 (cFlag.enc ok).length m8, .slice A9 (cFlag.enc fo).length m9, .slice A10 (cEntries.enc en).length m10, .slice A11 (cConf.enc (vo, le)).length m11, .slice A12 (cHeader.enc ((hv, hi, he), hk, hn, hs, hu)).length m12, .slice A13 (cText.enc da).length m13, .slice A14 (cNum.enc cl).length m14, .slice A15 (cNum.enc sq).length m15] [cInt.enc kd, cInt.enc fr, cInt.enc tn, cNum.enc tm, cNum.enc ix, cNum.enc lt, cNum.enc cm, cNum.enc cx, cFlag.enc ok, cFlag.enc fo, cEntries.enc en, cConf.enc (vo, le), cHeader.enc ((hv, hi, he), hk, hn, hs, hu), cText.enc da, cNum.enc cl, cNum.enc sq] := hp15.snoc hpc
  clear hpc
  refine ⟨hk16, ?_⟩
  clear hp15 hk15
  refine wa_ready1 50 (by kernel_rfl) (na_call 50 53 44 #[O none 0 0, V J op] (Piece (cInt.enc op) w16) (by kernel_rfl) (by kernel_rfl) (by kernel_rfl) (by kernel_rfl) (own_piece y16 z16 (putInt_any none 0 0 0 op [] (by omega) h.op'.1 h.op'.2 w16 (Bs.nil _ _ _) (Nat.zero_le _))) ?_)
  rintro v w17 hpc
  have hk17 : Keeps [] w0 w17 := hk16.then (Keeps.of_below [] hpc.2)
  have hpc2 := hpc
  obtain ⟨⟨A16, m16, rfl, -⟩, -⟩ := hpc2
  have hp17 : Pcs w17 [.slice A0 (cInt.enc kd).length m0, .slice A1 (cInt.enc fr).length m1, .slice A2 (cInt.enc tn).length m2, .slice A3 (cNum.enc tm).length m3, .slice A4 (cNum.enc ix).length m4, .slice A5 (cNum.enc lt).length m5, .slice A6 (cNum.enc cm).length m6, .slice A7 (cNum.enc cx).length m7, .slice A8 (cFlag.enc ok).length m8, .slice A9 (cFlag.enc fo).length m9, .slice A10 (cEntries.enc en).length m10, .slice A11 (cConf.enc (vo, le)).length m11, .slice A12 (cHeader.enc ((hv, hi, he), hk, hn, hs, hu)).length m12, .slice A13 (cText.enc da).length m13, .slice A14 (cNum.enc cl).length m14, .slice A15 (cNum.enc sq).length m15, .slice A16 (cInt.enc op).length m16] [cInt.enc kd, cInt.enc fr, cInt.enc tn, cNum.enc tm, cNum.enc ix, cNum.enc lt, cNum.enc cm, cNum.enc cx, cFlag.enc ok, cFlag.enc fo, cEntries.enc en, cConf.enc (vo, le), cHeader.enc ((hv, hi, he), hk, hn, hs, hu), cText.enc da, cNum.enc cl, cNum.enc sq, cInt.enc op] := hp16.snoc hpc
  clear hpc
  refine ⟨hk17, ?_⟩
  clear hp16 hk16
  refine wa_ready1 53 (by kernel_rfl) (na_call 53 56 52 #[O none 0 0, .string (bstr ky)] (Piece (cText.enc ky) w17) (by kernel_rfl) (by kernel_rfl) (by kernel_rfl) (by kernel_rfl) (own_piece y17 z17 (putText_any ky w17 h.ky'.1 h.ky'.2)) ?_)
  rintro v w18 hpc
  have hk18 : Keeps [] w0 w18 := hk17.then (Keeps.of_below [] hpc.2)
  have hpc2 := hpc
  obtain ⟨⟨A17, m17, rfl, -⟩, -⟩ := hpc2
  have hp18 : Pcs w18 [.slice A0 (cInt.enc kd).length m0, .slice A1 (cInt.enc fr).length m1, .slice A2 (cInt.enc tn).length m2, .slice A3 (cNum.enc tm).length m3, .slice A4 (cNum.enc ix).length m4, .slice A5 (cNum.enc lt).length m5, .slice A6 (cNum.enc cm).length m6, .slice A7 (cNum.enc cx).length m7, .slice A8 (cFlag.enc ok).length m8, .slice A9 (cFlag.enc fo).length m9, .slice A10 (cEntries.enc en).length m10, .slice A11 (cConf.enc (vo, le)).length m11, .slice A12 (cHeader.enc ((hv, hi, he), hk, hn, hs, hu)).length m12, .slice A13 (cText.enc da).length m13, .slice A14 (cNum.enc cl).length m14, .slice A15 (cNum.enc sq).length m15, .slice A16 (cInt.enc op).length m16, .slice A17 (cText.enc ky).length m17] [cInt.enc kd, cInt.enc fr, cInt.enc tn, cNum.enc tm, cNum.enc ix, cNum.enc lt, cNum.enc cm, cNum.enc cx, cFlag.enc ok, cFlag.enc fo, cEntries.enc en, cConf.enc (vo, le), cHeader.enc ((hv, hi, he), hk, hn, hs, hu), cText.enc da, cNum.enc cl, cNum.enc sq, cInt.enc op, cText.enc ky] := hp17.snoc hpc
  clear hpc
  refine ⟨hk18, ?_⟩
  clear hp17 hk17
  refine wa_ready1 56 (by kernel_rfl) (na_call 56 59 44 #[O none 0 0, V J co] (Piece (cInt.enc co) w18) (by kernel_rfl) (by kernel_rfl) (by kernel_rfl) (by kernel_rfl) (own_piece y18 z18 (putInt_any none 0 0 0 co [] (by omega) h.co'.1 h.co'.2 w18 (Bs.nil _ _ _) (Nat.zero_le _))) ?_)
  rintro v w19 hpc
  have hk19 : Keeps [] w0 w19 := hk18.then (Keeps.of_below [] hpc.2)
  have hpc2 := hpc
  obtain ⟨⟨A18, m18, rfl, -⟩, -⟩ := hpc2
  have hp19 : Pcs w19 [.slice A0 (cInt.enc kd).length m0, .slice A1 (cInt.enc fr).length m1, .slice A2 (cInt.enc tn).length m2, .slice A3 (cNum.enc tm).length m3, .slice A4 (cNum.enc ix).length m4, .slice A5 (cNum.enc lt).length m5, .slice A6 (cNum.enc cm).length m6, .slice A7 (cNum.enc cx).length m7, .slice A8 (cFlag.enc ok).length m8, .slice A9 (cFlag.enc fo).length m9, .slice A10 (cEntries.enc en).length m10, .slice A11 (cConf.enc (vo, le)).length m11, .slice A12 (cHeader.enc ((hv, hi, he), hk, hn, hs, hu)).length m12, .slice A13 (cText.enc da).length m13, .slice A14 (cNum.enc cl).length m14, .slice A15 (cNum.enc sq).length m15, .slice A16 (cInt.enc op).length m16, .slice A17 (cText.enc ky).length m17, .slice A18 (cInt.enc co).length m18] [cInt.enc kd, cInt.enc fr, cInt.enc tn, cNum.enc tm, cNum.enc ix, cNum.enc lt, cNum.enc cm, cNum.enc cx, cFlag.enc ok, cFlag.enc fo, cEntries.enc en, cConf.enc (vo, le), cHeader.enc ((hv, hi, he), hk, hn, hs, hu), cText.enc da, cNum.enc cl, cNum.enc sq, cInt.enc op, cText.enc ky, cInt.enc co] := hp18.snoc hpc
  clear hpc
  refine ⟨hk19, ?_⟩
  clear hp18 hk18
  refine wa_ready1 59 (by kernel_rfl) (na_call 59 62 53 #[.slice An nm.length cn, .func (.func 52) #[] #[]] (Piece (cNames.enc nm) w19) (by kernel_rfl) (by kernel_rfl) (by kernel_rfl) (by kernel_rfl) (own_piece y19 z19 (putNames_any An cn nm w19 (rok_names.kept (X' := []) h.nm' (k0.then hk19) (by simp) (by simp)) (Nat.le_trans z19 (by decide)))) ?_)
  rintro v w20 hpc
  have hk20 : Keeps [] w0 w20 := hk19.then (Keeps.of_below [] hpc.2)
  have hpc2 := hpc
  obtain ⟨⟨A19, m19, rfl, -⟩, -⟩ := hpc2
  have hp20 : Pcs w20 [.slice A0 (cInt.enc kd).length m0, .slice A1 (cInt.enc fr).length m1, .slice A2 (cInt.enc tn).length m2, .slice A3 (cNum.enc tm).length m3, .slice A4 (cNum.enc ix).length m4, .slice A5 (cNum.enc lt).length m5, .slice A6 (cNum.enc cm).length m6, .slice A7 (cNum.enc cx).length m7, .slice A8 (cFlag.enc ok).length m8, .slice A9 (cFlag.enc fo).length m9, .slice A10 (cEntries.enc en).length m10, .slice A11 (cConf.enc (vo, le)).length m11, .slice A12 (cHeader.enc ((hv, hi, he), hk, hn, hs, hu)).length m12, .slice A13 (cText.enc da).length m13, .slice A14 (cNum.enc cl).length m14, .slice A15 (cNum.enc sq).length m15, .slice A16 (cInt.enc op).length m16, .slice A17 (cText.enc ky).length m17, .slice A18 (cInt.enc co).length m18, .slice A19 (cNames.enc nm).length m19] [cInt.enc kd, cInt.enc fr, cInt.enc tn, cNum.enc tm, cNum.enc ix, cNum.enc lt, cNum.enc cm, cNum.enc cx, cFlag.enc ok, cFlag.enc fo, cEntries.enc en, cConf.enc (vo, le), cHeader.enc ((hv, hi, he), hk, hn, hs, hu), cText.enc da, cNum.enc cl, cNum.enc sq, cInt.enc op, cText.enc ky, cInt.enc co, cNames.enc nm] := hp19.snoc hpc
  clear hpc
  refine ⟨hk20, ?_⟩
  clear hp19 hk19
  have hms : Ms (w20.alloc (.cells #[.slice A0 (cInt.enc kd).length m0, .slice A1 (cInt.enc fr).length m1, .slice A2 (cInt.enc tn).length m2, .slice A3 (cNum.enc tm).length m3, .slice A4 (cNum.enc ix).length m4, .slice A5 (cNum.enc lt).length m5, .slice A6 (cNum.enc cm).length m6, .slice A7 (cNum.enc cx).length m7, .slice A8 (cFlag.enc ok).length m8, .slice A9 (cFlag.enc fo).length m9, .slice A10 (cEntries.enc en).length m10, .slice A11 (cConf.enc (vo, le)).length m11, .slice A12 (cHeader.enc ((hv, hi, he), hk, hn, hs, hu)).length m12, .slice A13 (cText.enc da).length m13, .slice A14 (cNum.enc cl).length m14, .slice A15 (cNum.enc sq).length m15, .slice A16 (cInt.enc op).length m16, .slice A17 (cText.enc ky).length m17, .slice A18 (cInt.enc co).length m18, .slice A19 (cNames.enc nm).length m19] 23)) (w20.alloc (.cells #[.slice A0 (cInt.enc kd).length m0, .slice A1 (cInt.enc fr).length m1, .slice A2 (cInt.enc tn).length m2, .slice A3 (cNum.enc tm).length m3, .slice A4 (cNum.enc ix).length m4, .slice A5 (cNum.enc lt).length m5, .slice A6 (cNum.enc cm).length m6, .slice A7 (cNum.enc cx).length m7, .slice A8 (cFlag.enc ok).length m8, .slice A9 (cFlag.enc fo).length m9, .slice A10 (cEntries.enc en).length m10, .slice A11 (cConf.enc (vo, le)).length m11, .slice A12 (cHeader.enc ((hv, hi, he), hk, hn, hs, hu)).length m12, .slice A13 (cText.enc da).length m13, .slice A14 (cNum.enc cl).length m14, .slice A15 (cNum.enc sq).length m15, .slice A16 (cInt.enc op).length m16, .slice A17 (cText.enc ky).length m17, .slice A18 (cInt.enc co).length m18, .slice A19 (cNames.enc nm).length m19] 23)).heap.size (some ⟨w20.heap.size, 0, none⟩) 20 [cInt.enc kd, cInt.enc fr, cInt.enc tn, cNum.enc tm, cNum.enc ix, cNum.enc lt, cNum.enc cm, cNum.enc cx, cFlag.enc ok, cFlag.enc fo, cEntries.enc en, cConf.enc (vo, le), cHeader.enc ((hv, hi, he), hk, hn, hs, hu), cText.enc da, cNum.enc cl, cNum.enc sq, cInt.enc op, cText.enc ky, cInt.enc co, cNames.enc nm] := hp20.ms 23
  have hk21 : Keeps [] w0 (w20.alloc (.cells #[.slice A0 (cInt.enc kd).length m0, .slice A1 (cInt.enc fr).length m1, .slice A2 (cInt.enc tn).length m2, .slice A3 (cNum.enc tm).length m3, .slice A4 (cNum.enc ix).length m4, .slice A5 (cNum.enc lt).length m5, .slice A6 (cNum.enc cm).length m6, .slice A7 (cNum.enc cx).length m7, .slice A8 (cFlag.enc ok).length m8, .slice A9 (cFlag.enc fo).length m9, .slice A10 (cEntries.enc en).length m10, .slice A11 (cConf.enc (vo, le)).length m11, .slice A12 (cHeader.enc ((hv, hi, he), hk, hn, hs, hu)).length m12, .slice A13 (cText.enc da).length m13, .slice A14 (cNum.enc cl).length m14, .slice A15 (cNum.enc sq).length m15, .slice A16 (cInt.enc op).length m16, .slice A17 (cText.enc ky).length m17, .slice A18 (cInt.enc co).length m18, .slice A19 (cNames.enc nm).length m19] 23)) := hk20.alloc _
  refine wa_ready1 60 (by kernel_rfl) (na_make 60 63 (.slice (some ⟨w20.heap.size, 0, none⟩) 20 20) (w20.alloc (.cells #[.slice A0 (cInt.enc kd).length m0, .slice A1 (cInt.enc fr).length m1, .slice A2 (cInt.enc tn).length m2, .slice A3 (cNum.enc tm).length m3, .slice A4 (cNum.enc ix).length m4, .slice A5 (cNum.enc lt).length m5, .slice A6 (cNum.enc cm).length m6, .slice A7 (cNum.enc cx).length m7, .slice A8 (cFlag.enc ok).length m8, .slice A9 (cFlag.enc fo).length m9, .slice A10 (cEntries.enc en).length m10, .slice A11 (cConf.enc (vo, le)).length m11, .slice A12 (cHeader.enc ((hv, hi, he), hk, hn, hs, hu)).length m12, .slice A13 (cText.enc da).length m13, .slice A14 (cNum.enc cl).length m14, .slice A15 (cNum.enc sq).length m15, .slice A16 (cInt.enc op).length m16, .slice A17 (cText.enc ky).length m17, .slice A18 (cInt.enc co).length m18, .slice A19 (cNames.enc nm).length m19] 23)) (by kernel_rfl) (by kernel_rfl) (by kernel_rfl) (by kernel_rfl) hk21 ?_)
  generalize hw21 : w20.alloc (.cells #[.slice A0 (cInt.enc kd).length m0, .slice A1 (cInt.enc fr).length m1, .slice A2 (cInt.enc tn).length m2, .slice A3 (cNum.enc tm).length m3, .slice A4 (cNum.enc ix).length m4, .slice A5 (cNum.enc lt).length m5, .slice A6 (cNum.enc cm).length m6, .slice A7 (cNum.enc cx).length m7, .slice A8 (cFlag.enc ok).length m8, .slice A9 (cFlag.enc fo).length m9, .slice A10 (cEntries.enc en).length m10, .slice A11 (cConf.enc (vo, le)).length m11, .slice A12 (cHeader.enc ((hv, hi, he), hk, hn, hs, hu)).length m12, .slice A13 (cText.enc da).length m13, .slice A14 (cNum.enc cl).length m14, .slice A15 (cNum.enc sq).length m15, .slice A16 (cInt.enc op).length m16, .slice A17 (cText.enc ky).length m17, .slice A18 (cInt.enc co).length m18, .slice A19 (cNames.enc nm).length m19] 23) = w21 at *
  refine wa_ready1 61 (by kernel_rfl) (na_call 61 64 38 #[.slice (some ⟨w20.heap.size, 0, none⟩) 20 20] (Joined (cInt.enc kd ++ (cInt.enc fr ++ (cInt.enc tn ++ (cNum.enc tm ++ (cNum.enc ix ++ (cNum.enc lt ++ (cNum.enc cm ++ (cNum.enc cx ++ (cFlag.enc ok ++ (cFlag.enc fo ++ (cEntries.enc en ++ (cConf.enc (vo, le) ++ (cHeader.enc ((hv, hi, he), hk, hn, hs, hu) ++ (cText.enc da ++ (cNum.enc cl ++ (cNum.enc sq ++ (cInt.enc op ++ (cText.enc ky ++ (cInt.enc co ++ (cNames.enc nm)))))))))))))))))))) w21) (by kernel_rfl) (by kernel_rfl) (by kernel_rfl) (by kernel_rfl)
    (concat20 (cInt.enc kd) (cInt.enc fr) (cInt.enc tn) (cNum.enc tm) (cNum.enc ix) (cNum.enc lt) (cNum.enc cm) (cNum.enc cx) (cFlag.enc ok) (cFlag.enc fo) (cEntries.enc en) (cConf.enc (vo, le)) (cHeader.enc ((hv, hi, he), hk, hn, hs, hu)) (cText.enc da) (cNum.enc cl) (cNum.enc sq) (cInt.enc op) (cText.enc ky) (cInt.enc co) (cNames.enc nm) hc20 _ w21 hms) ?_)
  rintro v w22 ⟨hown, hbl⟩
  have hk22 : Keeps [] w0 w22 := hk21.then (Keeps.of_below [] hbl)
  refine ⟨hk22, ?_⟩
  refine wa_tk 62 2 v (by kernel_rfl) (fun _ _ => by kernel_rfl) hk22 ?_
  refine wa_done (by kernel_rfl) ?_
  simp only [Act.put, List.setIfInBounds_toArray, List.set_cons_zero, List.set_cons_succ]
  have hfin : Below w.heap.size w w22 := (k0.then hk22).below (by simp) (Nat.le_refl _)
  have hsz20 : w.heap.size ≤ w21.heap.size := (k0.then hk21).size
  have HF := Lib.hid (And.intro (own_base hown hsz20) hfin)
  clear hown hbl hk22 hfin hsz20 hms hp20 hk20 hk21
  go_wp2_with fail
  go_ret
  exact ⟨v, rfl, HF.out.1, HF.out.2⟩
end Pk
end
end Go.Proofs.YtdfkapehjmmnoaaGreatDoor
