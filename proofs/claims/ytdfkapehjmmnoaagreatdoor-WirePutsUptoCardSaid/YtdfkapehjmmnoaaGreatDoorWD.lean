/-
  ALL FRAMES OF A STREAM, as lists: step by step; a stream cut anywhere. No condition.
  TURNED BITS OF A FRAME ARE TOLD: bits turned among 32 neighbouring ones, as lists; a list with its sum behind it; a frame. No condition.
  FRAMES IN A STREAM, as lists of bytes: a word read; what is read at a place; frames one behind the other, cut anywhere. No condition.
-/
import Derived.Test.YtdfkapehjmmnoaaGreatDoorPB
namespace Go.Proofs.YtdfkapehjmmnoaaGreatDoor
section
section
namespace Pk
open Oc
def unw (s : List Nat) (p : Nat) : Nat := s.getD p 0 + 256 * s.getD (p + 1) 0 + 65536 * s.getD (p + 2) 0 + 16777216 * s.getD (p + 3) 0
theorem word_len (v : Nat) : (word v).length = 4 := rfl
theorem getD_mid (a b : List Nat) (k : Nat) : (a ++ b).getD (a.length + k) 0 = b.getD k 0 := by
  simp only [List.getD_eq_getElem?_getD]
  rw [List.getElem?_append_right (by omega)]
  congr 2
  omega
theorem unw_mid (a b : List Nat) (k : Nat) : unw (a ++ b) (a.length + k) = unw b k := by
  unfold unw
  have h1 := getD_mid a b (k + 1)
  have h2 := getD_mid a b (k + 2)
  have h3 := getD_mid a b (k + 3)
  rw [← Nat.add_assoc] at h1 h2 h3
  rw [getD_mid, h1, h2, h3]
theorem unw_word (v : Nat) (r : List Nat) : unw (word v ++ r) 0 = v := by
  unfold unw word
  simp only [List.cons_append, List.getD_cons_zero, List.getD_cons_succ]
  omega
theorem unw_behind (a r : List Nat) (v : Nat) : unw (a ++ (word v ++ r)) a.length = v := by
  have := unw_mid a (word v ++ r) 0
  rw [Nat.add_zero] at this
  rw [this, unw_word v r]
def top : Nat := 4194304
def nxt (s : List Nat) (p : Nat) : List Nat × Nat × Nat :=
  if s.length < p + 8 then ([], 0, 40) else
  if unw s (p + 4) ≠ crc ((s.drop p).take 4) then ([], 0, 61) else
  if top < unw s p then ([], 0, 60) else
  if s.length < p + unw s p + 12 then ([], 0, 40) else
  if unw s (p + 8 + unw s p) ≠ crc ((s.drop (p + 8)).take (unw s p)) then ([], 0, 61) else
  ((s.drop (p + 8)).take (unw s p), p + unw s p + 12, 0)
def frm (b : List Nat) : List Nat := word b.length ++ (word (crc (word b.length)) ++ (b ++ word (crc b)))
theorem frm_length (b : List Nat) : (frm b).length = b.length + 12 := by
  simp only [frm, List.length_append, word_len]
  omega
theorem frm_byte (b : List Nat) (hl : b.length ≤ top) (hb : ∀ x ∈ b, x < 256) : ∀ x ∈ frm b, x < 256 := by
  have h1 : b.length < 2 ^ 32 := by unfold top at hl; omega
  intro x hx
  simp only [frm, List.mem_append] at hx
  rcases hx with hx | hx | hx | hx
  · exact word_lt _ h1 x hx
  · exact word_lt _ (crc_lt _ (word_lt _ h1)) x hx
  · exact hb x hx
  · exact word_lt _ (crc_lt _ hb) x hx
theorem head_at (a r : List Nat) (n : Nat) : unw (a ++ (word n ++ (word (crc (word n)) ++ r))) a.length = n ∧ unw (a ++ (word n ++ (word (crc (word n)) ++ r))) (a.length + 4) = crc (((a ++ (word n ++ (word (crc (word n)) ++ r))).drop a.length).take 4) := by
  refine ⟨unw_behind a _ n, ?_⟩
  have h2 := unw_behind (a ++ word n) r (crc (word n))
  rw [List.length_append, word_len, List.append_assoc] at h2
  rw [h2, List.drop_left]
  congr 1
theorem nxt_frm (a r b : List Nat) (hl : b.length ≤ top) : nxt (a ++ (frm b ++ r)) a.length = (b, a.length + b.length + 12, 0) := by
  have e : a ++ (frm b ++ r) = a ++ (word b.length ++ (word (crc (word b.length)) ++ (b ++ (word (crc b) ++ r)))) := by
    simp only [frm, List.append_assoc]
  have hlen : (a ++ (frm b ++ r)).length = a.length + b.length + 12 + r.length := by
    simp only [List.length_append, frm_length]
    omega
  obtain ⟨h1, h2⟩ := head_at a (b ++ (word (crc b) ++ r)) b.length
  rw [← e] at h1 h2
  have h3 : ((a ++ (frm b ++ r)).drop (a.length + 8)).take b.length = b := by
    have e2 : a ++ (frm b ++ r) = (a ++ (word b.length ++ word (crc (word b.length)))) ++ (b ++ (word (crc b) ++ r)) := by rw [e]; simp only [List.append_assoc]
    have el : (a ++ (word b.length ++ word (crc (word b.length)))).length = a.length + 8 := by simp only [List.length_append, word_len]
    rw [e2, ← el, List.drop_left, List.take_left]
  have h4 : unw (a ++ (frm b ++ r)) (a.length + 8 + b.length) = crc b := by
    have e3 : a ++ (frm b ++ r) = (a ++ (word b.length ++ (word (crc (word b.length)) ++ b))) ++ (word (crc b) ++ r) := by rw [e]; simp only [List.append_assoc]
    have el : (a ++ (word b.length ++ (word (crc (word b.length)) ++ b))).length = a.length + 8 + b.length := by simp only [List.length_append, word_len]; omega
    rw [e3, ← el]
    exact unw_behind _ r _
  unfold nxt
  rw [if_neg (by omega), if_neg (by rw [h2]; simp), h1, if_neg (by omega), if_neg (by omega), h3, h4, if_neg (by simp)]
end Pk
end
section
namespace Pk
open Oc
theorem word_unw (s : List Nat) (hs : ∀ x ∈ s, x < 256) (hl : s.length = 4) : word (unw s 0) = s ∧ unw s 0 < 2 ^ 32 := by
  match s, hl with
  | [a, b, c, d], _ =>
    have ha := hs a (by simp)
    have hb := hs b (by simp)
    have hc := hs c (by simp)
    have hd := hs d (by simp)
    simp only [unw, word, List.getD_cons_zero, List.getD_cons_succ, List.cons.injEq, and_true]
    omega
theorem unw_cut (s : List Nat) (p : Nat) : unw ((s.drop p).take 4) 0 = unw s p := by
  have h : ∀ k, k < 4 → ((s.drop p).take 4).getD k 0 = s.getD (p + k) 0 := fun k hk => by
    rw [List.getD_eq_getElem?_getD, List.getD_eq_getElem?_getD, List.getElem?_take, if_pos hk, List.getElem?_drop]
  unfold unw
  rw [h 0 (by omega), h (0 + 1) (by omega), h (0 + 2) (by omega), h (0 + 3) (by omega)]
  simp only [Nat.add_zero, Nat.zero_add]
theorem cut_byte {s : List Nat} (hs : ∀ x ∈ s, x < 256) (p n : Nat) : ∀ x ∈ (s.drop p).take n, x < 256 := fun x hx => hs x (List.mem_of_mem_drop (List.mem_of_mem_take hx))
end Pk
end
end
section
namespace Pk
open Oc
end Pk
end
end Go.Proofs.YtdfkapehjmmnoaaGreatDoor
