/-
  THINGS THAT STAND AS THE SAME BYTES ARE THE SAME: no writing is the beginning of another one. Plain lists; no condition.
-/
import Derived.Test.YtdfkapehjmmnoaaGreatDoorWJ
namespace Go.Proofs.YtdfkapehjmmnoaaGreatDoor
namespace Pk
open Oc
def Inj {α : Type} (c : Cd α) : Prop := ∀ a b r r', c.typ a → c.typ b → c.enc a ++ r = c.enc b ++ r' → a = b ∧ r = r'
theorem inj_good {α : Type} {c : Cd α} (hc : Good c) (h : ∀ a, c.typ a → c.ok a) : Inj c := fun a b r r' ha hb e => by
  have h1 := hc.back a [] r (h a ha)
  have h2 := hc.back b [] r' (h b hb)
  rw [List.nil_append] at h1 h2
  rw [e, h2] at h1
  simp only [Option.some.injEq, Prod.mk.injEq, List.length_nil, Nat.zero_add] at h1
  exact ⟨h1.1.symm, (List.append_inj e h1.2.symm).2⟩
theorem inj_num : Inj cNum := inj_good good_num fun _ h => h
theorem inj_n32 : Inj cN32 := inj_good good_n32 fun _ h => h
theorem inj_int : Inj cInt := inj_good good_int fun _ h => h
theorem inj_flag : Inj cFlag := inj_good good_flag fun _ h => h
theorem inj_text : Inj cText := fun a b r r' ha hb e => by
  have e' : puts a.length ++ (a ++ r) = puts b.length ++ (b ++ r') := by
    have : (puts a.length ++ a) ++ r = (puts b.length ++ b) ++ r' := e
    simpa only [List.append_assoc] using this
  obtain ⟨h1, h2⟩ := inj_num a.length b.length _ _ ha.1 hb.1 e'
  exact List.append_inj h2 h1
theorem inj_pair {α β : Type} {c : Cd α} {d : Cd β} (hc : Inj c) (hd : Inj d) : Inj (cPair c d) := fun a b r r' ha hb e => by
  have e' : c.enc a.1 ++ (d.enc a.2 ++ r) = c.enc b.1 ++ (d.enc b.2 ++ r') := by
    have : (c.enc a.1 ++ d.enc a.2) ++ r = (c.enc b.1 ++ d.enc b.2) ++ r' := e
    simpa only [List.append_assoc] using this
  obtain ⟨h1, h2⟩ := hc _ _ _ _ ha.1 hb.1 e'
  obtain ⟨h3, h4⟩ := hd _ _ _ _ ha.2 hb.2 h2
  exact ⟨Prod.ext h1 h3, h4⟩
theorem inj_encL {α : Type} {c : Cd α} (hc : Inj c) : ∀ (xs ys : List α) (r r' : List Nat), xs.length = ys.length → (∀ a ∈ xs, c.typ a) → (∀ a ∈ ys, c.typ a) → encL c xs ++ r = encL c ys ++ r' → xs = ys ∧ r = r'
  | [], [], r, r', _, _, _, e => ⟨rfl, by simpa [encL] using e⟩
  | [], _ :: _, _, _, hl, _, _, _ => by simp at hl
  | _ :: _, [], _, _, hl, _, _, _ => by simp at hl
  | x :: xs, y :: ys, r, r', hl, hx, hy, e => by
    have e' : c.enc x ++ (encL c xs ++ r) = c.enc y ++ (encL c ys ++ r') := by simpa [encL] using e
    obtain ⟨h1, h2⟩ := hc x y _ _ (hx x (by simp)) (hy y (by simp)) e'
    obtain ⟨h3, h4⟩ := inj_encL hc xs ys r r' (by simpa using hl) (fun a ha => hx a (by simp [ha])) (fun a ha => hy a (by simp [ha])) h2
    exact ⟨by rw [h1, h3], h4⟩
theorem inj_list {α : Type} {c : Cd α} (hc : Inj c) : Inj (cList c) := fun a b r r' ha hb e => by
  have e' : puts a.length ++ (encL c a ++ r) = puts b.length ++ (encL c b ++ r') := by
    have : (puts a.length ++ encL c a) ++ r = (puts b.length ++ encL c b) ++ r' := e
    simpa only [List.append_assoc] using this
  obtain ⟨h1, h2⟩ := inj_num a.length b.length _ _ ha.1 hb.1 e'
  exact inj_encL hc a b r r' h1 ha.2 hb.2 h2
theorem inj_ints : Inj cInts := inj_list inj_int
theorem inj_id : Inj cID := inj_pair inj_num (inj_pair inj_int inj_num)
theorem inj_header : Inj cHeader := inj_pair inj_id (inj_pair inj_int (inj_pair inj_int (inj_pair inj_int inj_n32)))
theorem inj_conf : Inj cConf := inj_pair inj_ints inj_ints
theorem inj_map : Inj cMap := inj_pair inj_num (inj_list (inj_pair inj_int inj_int))
theorem inj_cmd : Inj cCmd := inj_pair inj_int (inj_pair inj_num (inj_pair inj_num (inj_pair inj_text (inj_pair inj_int (inj_pair inj_n32 (inj_pair inj_num (inj_pair inj_num (inj_pair inj_int (inj_pair inj_int (inj_pair inj_flag (inj_pair inj_id inj_map)))))))))))
theorem inj_entry : Inj cEntry := inj_pair inj_num (inj_pair inj_num (inj_pair inj_int (inj_pair inj_cmd inj_conf)))
theorem inj_msg : Inj cMsg := inj_pair inj_int (inj_pair inj_int (inj_pair inj_int (inj_pair inj_num (inj_pair inj_num (inj_pair inj_num (inj_pair inj_num (inj_pair inj_num (inj_pair inj_flag (inj_pair inj_flag (inj_pair (inj_list inj_entry) (inj_pair inj_conf (inj_pair inj_header (inj_pair inj_text (inj_pair inj_num (inj_pair inj_num (inj_pair inj_int (inj_pair inj_text (inj_pair inj_int (inj_list inj_text)))))))))))))))))))
theorem enc_eq {a b : Msg} (ha : cMsg.typ a) (hb : cMsg.typ b) : cMsg.enc a = cMsg.enc b ↔ a = b :=
  ⟨fun e => (inj_msg a b [] [] ha hb (by rw [e])).1, fun e => by rw [e]⟩
end Pk
end Go.Proofs.YtdfkapehjmmnoaaGreatDoor
