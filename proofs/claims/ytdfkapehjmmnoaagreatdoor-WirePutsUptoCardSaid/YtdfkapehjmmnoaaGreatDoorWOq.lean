/-
  MESSAGES OPENED WITH THEIR BULK; what a small bulk gives: few bytes, lists and texts that may be read again. Conditions: the argument reads as data, within the reach of memory.
-/
import Derived.Test.YtdfkapehjmmnoaaGreatDoorWOp
namespace Go.Proofs.YtdfkapehjmmnoaaGreatDoor
open Go.RowKit Go.ChangeShapes Go.WideShapes Go.ChangeAt
namespace Pk
open Oc
def zInts : List Int → Nat := zL z1
def zID : ChunkID → Nat := zP z1 (zP z1 z1)
def zHeader : Header → Nat := zP zID (zP z1 (zP z1 (zP z1 z1)))
def zConf : Conf → Nat := zP zInts zInts
def zMember : Member → Nat := zP z1 z1
def zMap : Map → Nat := zP z1 (zL zMember)
def zCmd : Cmd → Nat := zP z1 (zP z1 (zP z1 (zP zB (zP z1 (zP z1 (zP z1 (zP z1 (zP z1 (zP z1 (zP z1 (zP zID zMap)))))))))))
def zEntry : Entry → Nat := zP z1 (zP z1 (zP z1 (zP zCmd zConf)))
def zMsg : Msg → Nat := zP z1 (zP z1 (zP z1 (zP z1 (zP z1 (zP z1 (zP z1 (zP z1 (zP z1 (zP z1 (zP (zL zEntry) (zP zConf (zP zHeader (zP zB (zP z1 (zP z1 (zP z1 (zP zB (zP z1 (zL zB)))))))))))))))))))
def Fits {α : Type} (c : Cd α) (z : α → Nat) : Prop := ∀ a, c.typ a → z a ≤ 1048576 → c.ok a ∧ (c.enc a).length ≤ 10 * z a
theorem fits_num : Fits cNum z1 := fun a h _ => ⟨h, by show (puts a).length ≤ 10 * 1; exact puts_ten a h⟩
theorem fits_n32 : Fits cN32 z1 := fun a h _ => ⟨h, by show (puts a).length ≤ 10 * 1; exact puts_ten a (Nat.lt_of_lt_of_le h (by decide))⟩
theorem fits_int : Fits cInt z1 := fun a h _ => ⟨h, by show (puts (zig a)).length ≤ 10 * 1; exact puts_ten _ (zig_lt a h.1 h.2)⟩
theorem fits_flag : Fits cFlag z1 := fun a h _ => ⟨h, by show [a.toNat].length ≤ 10 * 1; simp⟩
theorem fits_text : Fits cText zB := fun a h hz => by
  have hz' : a.length + 1 ≤ 1048576 := hz
  refine ⟨⟨by unfold most; omega, h.2⟩, ?_⟩
  show (puts a.length ++ a).length ≤ 10 * (a.length + 1)
  have := puts_ten a.length (by omega)
  rw [List.length_append]
  omega
theorem fits_pair {α β : Type} {c : Cd α} {d : Cd β} {z : α → Nat} {y : β → Nat} (hc : Fits c z) (hd : Fits d y) : Fits (cPair c d) (zP z y) := fun a h hz => by
  have hz' : z a.1 + y a.2 ≤ 1048576 := hz
  obtain ⟨h1, h2⟩ := hc a.1 h.1 (by omega)
  obtain ⟨h3, h4⟩ := hd a.2 h.2 (by omega)
  refine ⟨⟨h1, h3⟩, ?_⟩
  show (c.enc a.1 ++ d.enc a.2).length ≤ 10 * (z a.1 + y a.2)
  rw [List.length_append]
  omega
theorem fits_list {α : Type} {c : Cd α} {z : α → Nat} (hc : Fits c z) (hp : ∀ a, 1 ≤ z a) : Fits (cList c) (zL z) := fun a h hz => by
  have hz' : (a.map z).sum + 1 ≤ 1048576 := hz
  have key : ∀ l : List α, (∀ x ∈ l, c.typ x) → (l.map z).sum ≤ 1048575 → (∀ x ∈ l, c.ok x) ∧ (encL c l).length ≤ 10 * (l.map z).sum ∧ l.length ≤ (l.map z).sum := by
    intro l
    induction l with
    | nil => intro _ _; exact ⟨by simp, by simp [encL], by simp⟩
    | cons x l ih =>
      intro hl hs
      simp only [List.map_cons, List.sum_cons] at hs ⊢
      obtain ⟨h1, h2⟩ := hc x (hl x (by simp)) (by omega)
      obtain ⟨h3, h4, h5⟩ := ih (fun y hy => hl y (by simp [hy])) (by omega)
      have h6 : (encL c (x :: l)).length = (c.enc x).length + (encL c l).length := by simp [encL]
      have h7 := hp x
      refine ⟨fun y hy => ?_, by rw [h6]; omega, by rw [List.length_cons]; omega⟩
      rcases List.mem_cons.1 hy with rfl | hy
      · exact h1
      · exact h3 y hy
  obtain ⟨h1, h2, h3⟩ := key a h.2 (by omega)
  refine ⟨⟨by unfold most; omega, h1⟩, ?_⟩
  show (puts a.length ++ encL c a).length ≤ 10 * ((a.map z).sum + 1)
  have := puts_ten a.length (by omega)
  rw [List.length_append]
  omega
theorem p1 {α : Type} (a : α) : 1 ≤ z1 a := Nat.le_refl _
theorem pP {α β : Type} {z : α → Nat} {y : β → Nat} (h : ∀ a, 1 ≤ z a) (a : α × β) : 1 ≤ zP z y a := Nat.le_trans (h a.1) (Nat.le_add_right _ _)
theorem fits_ints : Fits cInts zInts := fits_list fits_int p1
theorem fits_id : Fits cID zID := fits_pair fits_num (fits_pair fits_int fits_num)
theorem fits_header : Fits cHeader zHeader := fits_pair fits_id (fits_pair fits_int (fits_pair fits_int (fits_pair fits_int fits_n32)))
theorem fits_conf : Fits cConf zConf := fits_pair fits_ints fits_ints
theorem fits_map : Fits cMap zMap := fits_pair fits_num (fits_list (fits_pair fits_int fits_int) (pP p1))
theorem fits_cmd : Fits cCmd zCmd := fits_pair fits_int (fits_pair fits_num (fits_pair fits_num (fits_pair fits_text (fits_pair fits_int (fits_pair fits_n32 (fits_pair fits_num (fits_pair fits_num (fits_pair fits_int (fits_pair fits_int (fits_pair fits_flag (fits_pair fits_id fits_map)))))))))))
theorem fits_entry : Fits cEntry zEntry := fits_pair fits_num (fits_pair fits_num (fits_pair fits_int (fits_pair fits_cmd fits_conf)))
theorem fits_msg : Fits cMsg zMsg := fits_pair fits_int (fits_pair fits_int (fits_pair fits_int (fits_pair fits_num (fits_pair fits_num (fits_pair fits_num (fits_pair fits_num (fits_pair fits_num (fits_pair fits_flag (fits_pair fits_flag (fits_pair (fits_list fits_entry (pP p1)) (fits_pair fits_conf (fits_pair fits_header (fits_pair fits_text (fits_pair fits_num (fits_pair fits_num (fits_pair fits_int (fits_pair fits_text (fits_pair fits_int (fits_list fits_text (fun _ => Nat.le_add_left _ _))))))))))))))))))))
section
variable {H : Type} {enc : TypeId × Value → H} {W : World}
theorem opb_ints : Opb enc Tryz.prog W 24 rInts zInts := opb_list Tryz.underlying24 rok_int (by kernel_rfl) (by kernel_rfl) (by decide) (by decide) (opb_one (opn_int Tryz.underlying3))
theorem opb_id : Opb enc Tryz.prog W 39 rID zID := opb_struct (tot := 3) Tryz.underlying39 (by kernel_rfl) (opbF_cons (off := 0) (k := 1) (o2 := 1) (opb_one (opn_num Tryz.underlying34)) rfl (by kernel_rfl) (opbF_cons (off := 1) (k := 1) (o2 := 2) (opb_one (opn_int Tryz.underlying3)) rfl (by kernel_rfl) (opbF_one (opb_one (opn_num Tryz.underlying34)) rfl (by kernel_rfl)) rfl) rfl)
theorem opb_header : Opb enc Tryz.prog W 42 rHeader zHeader := opb_struct (tot := 7) Tryz.underlying42 (by kernel_rfl) (opbF_cons (off := 0) (k := 3) (o2 := 3) opb_id rfl (by kernel_rfl) (opbF_cons (off := 3) (k := 1) (o2 := 4) (opb_one (opn_int Tryz.underlying3)) rfl (by kernel_rfl) (opbF_cons (off := 4) (k := 1) (o2 := 5) (opb_one (opn_int Tryz.underlying3)) rfl (by kernel_rfl) (opbF_cons (off := 5) (k := 1) (o2 := 6) (opb_one (opn_int Tryz.underlying3)) rfl (by kernel_rfl) (opbF_one (opb_one (opn_n32 Tryz.underlying40)) rfl (by kernel_rfl)) rfl) rfl) rfl) rfl)
theorem opb_conf : Opb enc Tryz.prog W 37 rConf zConf := opb_struct (tot := 2) Tryz.underlying37 (by kernel_rfl) (opbF_cons (off := 0) (k := 1) (o2 := 1) opb_ints rfl (by kernel_rfl) (opbF_one opb_ints rfl (by kernel_rfl)) rfl)
theorem opb_member : Opb enc Tryz.prog W 248 rMember zMember := opb_struct (tot := 2) Tryz.underlying248 (by kernel_rfl) (opbF_cons (off := 0) (k := 1) (o2 := 1) (opb_one (opn_int Tryz.underlying3)) rfl (by kernel_rfl) (opbF_one (opb_one (opn_int Tryz.underlying3)) rfl (by kernel_rfl)) rfl)
theorem opb_members : Opb enc Tryz.prog W 98 rMembers (zL zMember) := opb_list Tryz.underlying98 rok_member (by kernel_rfl) (by kernel_rfl) (by decide) (by decide) opb_member
theorem opb_map : Opb enc Tryz.prog W 100 rMap zMap := opb_struct (tot := 2) Tryz.underlying100 (by kernel_rfl) (opbF_cons (off := 0) (k := 1) (o2 := 1) (opb_one (opn_num Tryz.underlying34)) rfl (by kernel_rfl) (opbF_one opb_members rfl (by kernel_rfl)) rfl)
theorem opb_cmd : Opb enc Tryz.prog W 102 rCmd zCmd := opb_struct (tot := 16) Tryz.underlying102 (by kernel_rfl) (opbF_cons (off := 0) (k := 1) (o2 := 1) (opb_one (opn_int Tryz.underlying97)) rfl (by kernel_rfl) (opbF_cons (off := 1) (k := 1) (o2 := 2) (opb_one (opn_num Tryz.underlying34)) rfl (by kernel_rfl) (opbF_cons (off := 2) (k := 1) (o2 := 3) (opb_one (opn_num Tryz.underlying34)) rfl (by kernel_rfl) (opbF_cons (off := 3) (k := 1) (o2 := 4) (opb_text Tryz.underlying9) rfl (by kernel_rfl) (opbF_cons (off := 4) (k := 1) (o2 := 5) (opb_one (opn_int Tryz.underlying3)) rfl (by kernel_rfl) (opbF_cons (off := 5) (k := 1) (o2 := 6) (opb_one (opn_n32 Tryz.underlying40)) rfl (by kernel_rfl) (opbF_cons (off := 6) (k := 1) (o2 := 7) (opb_one (opn_num Tryz.underlying34)) rfl (by kernel_rfl) (opbF_cons (off := 7) (k := 1) (o2 := 8) (opb_one (opn_num Tryz.underlying34)) rfl (by kernel_rfl) (opbF_cons (off := 8) (k := 1) (o2 := 9) (opb_one (opn_int Tryz.underlying3)) rfl (by kernel_rfl) (opbF_cons (off := 9) (k := 1) (o2 := 10) (opb_one (opn_int Tryz.underlying3)) rfl (by kernel_rfl) (opbF_cons (off := 10) (k := 1) (o2 := 11) (opb_one (opn_flag Tryz.underlying4)) rfl (by kernel_rfl) (opbF_cons (off := 11) (k := 3) (o2 := 14) opb_id rfl (by kernel_rfl) (opbF_one opb_map rfl (by kernel_rfl)) rfl) rfl) rfl) rfl) rfl) rfl) rfl) rfl) rfl) rfl) rfl) rfl)
theorem opb_entry : Opb enc Tryz.prog W 104 rEntry zEntry := opb_struct (tot := 21) Tryz.underlying104 (by kernel_rfl) (opbF_cons (off := 0) (k := 1) (o2 := 1) (opb_one (opn_num Tryz.underlying34)) rfl (by kernel_rfl) (opbF_cons (off := 1) (k := 1) (o2 := 2) (opb_one (opn_num Tryz.underlying34)) rfl (by kernel_rfl) (opbF_cons (off := 2) (k := 1) (o2 := 3) (opb_one (opn_int Tryz.underlying96)) rfl (by kernel_rfl) (opbF_cons (off := 3) (k := 16) (o2 := 19) opb_cmd rfl (by kernel_rfl) (opbF_one opb_conf rfl (by kernel_rfl)) rfl) rfl) rfl) rfl)
theorem opb_msg : Opb enc Tryz.prog W 47 rMsg zMsg := opb_struct (tot := 27) Tryz.underlying47 (by kernel_rfl) (opbF_cons (off := 0) (k := 1) (o2 := 1) (opb_one (opn_int Tryz.underlying33)) rfl (by kernel_rfl) (opbF_cons (off := 1) (k := 1) (o2 := 2) (opb_one (opn_int Tryz.underlying3)) rfl (by kernel_rfl) (opbF_cons (off := 2) (k := 1) (o2 := 3) (opb_one (opn_int Tryz.underlying3)) rfl (by kernel_rfl) (opbF_cons (off := 3) (k := 1) (o2 := 4) (opb_one (opn_num Tryz.underlying34)) rfl (by kernel_rfl) (opbF_cons (off := 4) (k := 1) (o2 := 5) (opb_one (opn_num Tryz.underlying34)) rfl (by kernel_rfl) (opbF_cons (off := 5) (k := 1) (o2 := 6) (opb_one (opn_num Tryz.underlying34)) rfl (by kernel_rfl) (opbF_cons (off := 6) (k := 1) (o2 := 7) (opb_one (opn_num Tryz.underlying34)) rfl (by kernel_rfl) (opbF_cons (off := 7) (k := 1) (o2 := 8) (opb_one (opn_num Tryz.underlying34)) rfl (by kernel_rfl) (opbF_cons (off := 8) (k := 1) (o2 := 9) (opb_one (opn_flag Tryz.underlying4)) rfl (by kernel_rfl) (opbF_cons (off := 9) (k := 1) (o2 := 10) (opb_one (opn_flag Tryz.underlying4)) rfl (by kernel_rfl) (opbF_cons (off := 10) (k := 1) (o2 := 11) (opb_list Tryz.underlying35 rok_entry (by kernel_rfl) (by kernel_rfl) (by decide) (by decide) opb_entry) rfl (by kernel_rfl) (opbF_cons (off := 11) (k := 2) (o2 := 13) opb_conf rfl (by kernel_rfl) (opbF_cons (off := 13) (k := 7) (o2 := 20) opb_header rfl (by kernel_rfl) (opbF_cons (off := 20) (k := 1) (o2 := 21) (opb_bytes Tryz.underlying23 Tryz.underlying5 (by kernel_rfl) (by kernel_rfl)) rfl (by kernel_rfl) (opbF_cons (off := 21) (k := 1) (o2 := 22) (opb_one (opn_num Tryz.underlying34)) rfl (by kernel_rfl) (opbF_cons (off := 22) (k := 1) (o2 := 23) (opb_one (opn_num Tryz.underlying34)) rfl (by kernel_rfl) (opbF_cons (off := 23) (k := 1) (o2 := 24) (opb_one (opn_int Tryz.underlying43)) rfl (by kernel_rfl) (opbF_cons (off := 24) (k := 1) (o2 := 25) (opb_text Tryz.underlying9) rfl (by kernel_rfl) (opbF_cons (off := 25) (k := 1) (o2 := 26) (opb_one (opn_int Tryz.underlying44)) rfl (by kernel_rfl) (opbF_one (opb_list Tryz.underlying45 rok_text (by kernel_rfl) (by kernel_rfl) (by decide) (by decide) (opb_text Tryz.underlying9)) rfl (by kernel_rfl)) rfl) rfl) rfl) rfl) rfl) rfl) rfl) rfl) rfl) rfl) rfl) rfl) rfl) rfl) rfl) rfl) rfl) rfl) rfl)
end
theorem ty_msg : Typed rMsg cMsg := ty_pair ty_int (ty_pair ty_int (ty_pair ty_int (ty_pair ty_num (ty_pair ty_num (ty_pair ty_num (ty_pair ty_num (ty_pair ty_num (ty_pair ty_flag (ty_pair ty_flag (ty_pair (ty_list ty_entry) (ty_pair ty_conf (ty_pair ty_header (ty_pair ty_bytes (ty_pair ty_num (ty_pair ty_num (ty_pair ty_int (ty_pair ty_text (ty_pair ty_int (ty_list ty_text))))))))))))))))))) 
def dataLen (d : Msg) : Nat := d.2.2.2.2.2.2.2.2.2.2.2.2.2.1.length
theorem data_small (d : Msg) : dataLen d ≤ zMsg d := by
  obtain ⟨kd, fr, tn, tm, ix, lt, cm, cx, ok, fo, en, cf, hd, da, cl, sq, op, ky, co, nm⟩ := d
  show da.length ≤ _
  simp only [zMsg, zP, z1, zB]
  omega
end Pk
end Go.Proofs.YtdfkapehjmmnoaaGreatDoor
