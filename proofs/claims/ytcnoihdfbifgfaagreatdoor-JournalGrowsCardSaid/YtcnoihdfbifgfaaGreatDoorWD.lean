/-
  ALL FRAMES OF A STREAM, as lists: step by step; a stream cut anywhere. No condition.
  TURNED BITS OF A FRAME ARE TOLD: bits turned among 32 neighbouring ones, as lists; a list with its sum behind it; a frame. No condition.
  FRAMES IN A STREAM, as lists of bytes: a word read; what is read at a place; frames one behind the other, cut anywhere. No condition.
-/
import Derived.Test.YtcnoihdfbifgfaaGreatDoorPB
namespace Go.Proofs.YtcnoihdfbifgfaaGreatDoor
section
section
namespace Pk
open Oc
/-- four bytes as a number -/
def unw (s : List Nat) (p : Nat) : Nat := s.getD p 0 + 256 * s.getD (p + 1) 0 + 65536 * s.getD (p + 2) 0 + 16777216 * s.getD (p + 3) 0
theorem word_len (v : Nat) : (word v).length = 4 := rfl
theorem getD_mid (a b : List Nat) (k : Nat) : (a ++ b).getD (a.length + k) 0 = b.getD k 0 := by
  simp only [List.getD_eq_getElem?_getD]
  rw [List.getElem?_append_right (by omega)]
  congr 2
  omega
theorem unw_mid (a b : List Nat) (k : Nat) : unw (a ++ b) (a.length + k) = unw b k := by
  unfold unw
  have h1 := getD_mid a b (k + 1)
  have h2 := getD_mid a b (k + 2)
  have h3 := getD_mid a b (k + 3)
  rw [← Nat.add_assoc] at h1 h2 h3
  rw [getD_mid, h1, h2, h3]
theorem unw_word (v : Nat) (r : List Nat) : unw (word v ++ r) 0 = v := by
  unfold unw word
  simp only [List.cons_append, List.getD_cons_zero, List.getD_cons_succ]
  omega
theorem unw_behind (a r : List Nat) (v : Nat) : unw (a ++ (word v ++ r)) a.length = v := by
  have := unw_mid a (word v ++ r) 0
  rw [Nat.add_zero] at this
  rw [this, unw_word v r]
def top : Nat := 4194304
/-- what the package and the document read at a place of a stream: bytes, place, error -/
def nxt (s : List Nat) (p : Nat) : List Nat × Nat × Nat :=
  if s.length < p + 8 then ([], 0, 40) else
  if unw s (p + 4) ≠ crc ((s.drop p).take 4) then ([], 0, 61) else
  if top < unw s p then ([], 0, 60) else
  if s.length < p + unw s p + 12 then ([], 0, 40) else
  if unw s (p + 8 + unw s p) ≠ crc ((s.drop (p + 8)).take (unw s p)) then ([], 0, 61) else
  ((s.drop (p + 8)).take (unw s p), p + unw s p + 12, 0)
/-- a frame -/
def frm (b : List Nat) : List Nat := word b.length ++ (word (crc (word b.length)) ++ (b ++ word (crc b)))
theorem frm_length (b : List Nat) : (frm b).length = b.length + 12 := by
  simp only [frm, List.length_append, word_len]
  omega
theorem frm_byte (b : List Nat) (hl : b.length ≤ top) (hb : ∀ x ∈ b, x < 256) : ∀ x ∈ frm b, x < 256 := by
  have h1 : b.length < 2 ^ 32 := by unfold top at hl; omega
  intro x hx
  simp only [frm, List.mem_append] at hx
  rcases hx with hx | hx | hx | hx
  · exact word_lt _ h1 x hx
  · exact word_lt _ (crc_lt _ (word_lt _ h1)) x hx
  · exact hb x hx
  · exact word_lt _ (crc_lt _ hb) x hx
/-- the head of a frame, at its place -/
theorem head_at (a r : List Nat) (n : Nat) : unw (a ++ (word n ++ (word (crc (word n)) ++ r))) a.length = n ∧ unw (a ++ (word n ++ (word (crc (word n)) ++ r))) (a.length + 4) = crc (((a ++ (word n ++ (word (crc (word n)) ++ r))).drop a.length).take 4) := by
  refine ⟨unw_behind a _ n, ?_⟩
  have h2 := unw_behind (a ++ word n) r (crc (word n))
  rw [List.length_append, word_len, List.append_assoc] at h2
  rw [h2, List.drop_left]
  congr 1
theorem nxt_frm (a r b : List Nat) (hl : b.length ≤ top) : nxt (a ++ (frm b ++ r)) a.length = (b, a.length + b.length + 12, 0) := by
  have e : a ++ (frm b ++ r) = a ++ (word b.length ++ (word (crc (word b.length)) ++ (b ++ (word (crc b) ++ r)))) := by
    simp only [frm, List.append_assoc]
  have hlen : (a ++ (frm b ++ r)).length = a.length + b.length + 12 + r.length := by
    simp only [List.length_append, frm_length]
    omega
  obtain ⟨h1, h2⟩ := head_at a (b ++ (word (crc b) ++ r)) b.length
  rw [← e] at h1 h2
  have h3 : ((a ++ (frm b ++ r)).drop (a.length + 8)).take b.length = b := by
    have e2 : a ++ (frm b ++ r) = (a ++ (word b.length ++ word (crc (word b.length)))) ++ (b ++ (word (crc b) ++ r)) := by rw [e]; simp only [List.append_assoc]
    have el : (a ++ (word b.length ++ word (crc (word b.length)))).length = a.length + 8 := by simp only [List.length_append, word_len]
    rw [e2, ← el, List.drop_left, List.take_left]
  have h4 : unw (a ++ (frm b ++ r)) (a.length + 8 + b.length) = crc b := by
    have e3 : a ++ (frm b ++ r) = (a ++ (word b.length ++ (word (crc (word b.length)) ++ b))) ++ (word (crc b) ++ r) := by rw [e]; simp only [List.append_assoc]
    have el : (a ++ (word b.length ++ (word (crc (word b.length)) ++ b))).length = a.length + 8 + b.length := by simp only [List.length_append, word_len]; omega
    rw [e3, ← el]
    exact unw_behind _ r _
  unfold nxt
  rw [if_neg (by omega), if_neg (by rw [h2]; simp), h1, if_neg (by omega), if_neg (by omega), h3, h4, if_neg (by simp)]
/-- a frame that is not whole -/
theorem nxt_cut (a b : List Nat) (k : Nat) (hl : b.length ≤ top) (hk : k < b.length + 12) : nxt (a ++ (frm b).take k) a.length = ([], 0, 40) := by
  have hlen : (a ++ (frm b).take k).length = a.length + k := by
    rw [List.length_append, List.length_take, frm_length]
    omega
  by_cases h8 : k < 8
  · unfold nxt
    rw [if_pos (by omega)]
  · have e : (frm b).take k = word b.length ++ (word (crc (word b.length)) ++ (b ++ word (crc b)).take (k - 8)) := by
      have e1 : frm b = (word b.length ++ word (crc (word b.length))) ++ (b ++ word (crc b)) := by simp only [frm, List.append_assoc]
      have el : (word b.length ++ word (crc (word b.length))).length = 8 := rfl
      rw [e1, List.take_append, List.take_of_length_le (by omega), el, List.append_assoc]
    obtain ⟨h1, h2⟩ := head_at a ((b ++ word (crc b)).take (k - 8)) b.length
    rw [← e] at h1 h2
    unfold nxt
    rw [if_neg (by omega), if_neg (by rw [h2]; simp), h1, if_neg (by omega), if_pos (by omega)]
theorem nxt_end (s : List Nat) (p : Nat) (h : s.length ≤ p) : nxt s p = ([], 0, 40) := by
  unfold nxt
  rw [if_pos (by omega)]
/-- what is read goes on by twelve bytes at the least, and stays within the stream -/
theorem nxt_ok {s : List Nat} {p q : Nat} {b : List Nat} (h : nxt s p = (b, q, 0)) : p + 12 ≤ q ∧ q ≤ s.length ∧ b.length + p + 12 = q ∧ b.length ≤ top := by
  unfold nxt at h
  split at h
  · simp at h
  split at h
  · simp at h
  split at h
  · simp at h
  split at h
  · simp at h
  split at h
  · simp at h
  · rename_i h1 _ h3 h4 _
    simp only [Prod.mk.injEq, and_true] at h
    obtain ⟨rfl, rfl⟩ := h
    have : ((s.drop (p + 8)).take (unw s p)).length = unw s p := by rw [List.length_take, List.length_drop]; omega
    omega
/-- all frames from a place on, with so much purse -/
def als (s : List Nat) : Nat → Nat → List (List Nat) × Nat
  | 0, p => ([], p)
  | f + 1, p => if (nxt s p).2.2 = 0 then ((nxt s p).1 :: (als s f (nxt s p).2.1).1, (als s f (nxt s p).2.1).2) else ([], p)
/-- frames one behind the other -/
def frms (L : List (List Nat)) : List Nat := (L.map frm).flatten
theorem frms_nil : frms [] = [] := rfl
theorem frms_cons (b : List Nat) (L : List (List Nat)) : frms (b :: L) = frm b ++ frms L := by simp [frms]
theorem frms_append (L M : List (List Nat)) : frms (L ++ M) = frms L ++ frms M := by simp [frms]
theorem als_frms : ∀ (L : List (List Nat)) (a r : List Nat) (f : Nat) (_ : ∀ b ∈ L, b.length ≤ top) (_ : (nxt (a ++ (frms L ++ r)) (a.length + (frms L).length)).2.2 ≠ 0) (_ : L.length < f),
    als (a ++ (frms L ++ r)) f a.length = (L, a.length + (frms L).length)
  | [], a, r, 0, _, _, hf => absurd hf (by simp)
  | [], a, r, f + 1, _, hr, _ => by
    have hr' : (nxt (a ++ (frms [] ++ r)) a.length).2.2 ≠ 0 := hr
    simp only [als, if_neg hr']
    rfl
  | b :: L, a, r, 0, _, _, hf => absurd hf (by simp)
  | b :: L, a, r, f + 1, hL, hr, hf => by
    have hb := hL b (by simp)
    have e : a ++ (frms (b :: L) ++ r) = (a ++ frm b) ++ (frms L ++ r) := by simp only [frms_cons, List.append_assoc]
    have el : (a ++ frm b).length = a.length + b.length + 12 := by rw [List.length_append, frm_length, Nat.add_assoc]
    have ef : a.length + (frms (b :: L)).length = (a ++ frm b).length + (frms L).length := by rw [frms_cons, List.length_append, List.length_append, Nat.add_assoc]
    have hn : nxt (a ++ (frms (b :: L) ++ r)) a.length = (b, (a ++ frm b).length, 0) := by
      have := nxt_frm a (frms L ++ r) b hb
      rw [el, frms_cons, List.append_assoc]
      exact this
    rw [ef] at hr ⊢
    have ih := als_frms L (a ++ frm b) r f (fun c hc => hL c (by simp [hc])) (by rw [← e]; exact hr) (by simpa using hf)
    rw [← e] at ih
    simp only [als, hn, if_true, ih]
end Pk
end
section
namespace Pk
open Oc
theorem bit_step (k m : Nat) : k % 2 ^ (m + 1) = k % 2 ^ m + 2 ^ m * (k / 2 ^ m % 2) := by rw [Nat.pow_succ, Nat.mod_mul]
/-- bit a is turned where y is 1, and lies within the list -/
def flip (l : List Nat) (a y : Nat) : List Nat := if a < 8 * l.length ∧ y = 1 then l.set (a / 8) (l.getD (a / 8) 0 ^^^ 2 ^ (a % 8)) else l
/-- the first m bits from a on are turned where k has a 1 -/
def turn (l : List Nat) (a k : Nat) : Nat → List Nat
  | 0 => l
  | m + 1 => flip (turn l a k m) (a + m) (k / 2 ^ m % 2)
theorem flip_length (l : List Nat) (a y : Nat) : (flip l a y).length = l.length := by
  unfold flip
  split <;> simp
theorem turn_length (l : List Nat) (a k : Nat) : ∀ m, (turn l a k m).length = l.length
  | 0 => rfl
  | m + 1 => by rw [turn, flip_length, turn_length l a k m]
theorem flip_byte {l : List Nat} (hl : ∀ x ∈ l, x < 256) (a y : Nat) : ∀ x ∈ flip l a y, x < 256 := by
  unfold flip
  split
  · intro x hx
    rcases List.mem_or_eq_of_mem_set hx with h | h
    · exact hl x h
    · rename_i hc
      have hi : a / 8 < l.length := by omega
      rw [h, List.getD_eq_getElem?_getD, List.getElem?_eq_getElem hi]
      exact Nat.xor_lt_two_pow (n := 8) (hl _ (List.getElem_mem hi)) (Nat.pow_lt_pow_right (by decide) (Nat.mod_lt _ (by decide)))
  · exact hl
theorem turn_byte {l : List Nat} (hl : ∀ x ∈ l, x < 256) (a k : Nat) : ∀ m, ∀ x ∈ turn l a k m, x < 256
  | 0 => hl
  | m + 1 => flip_byte (turn_byte hl a k m) _ _
theorem flip_take (l : List Nat) (a y j : Nat) (hj : j ≤ l.length) : (flip l a y).take j = flip (l.take j) a y := by
  unfold flip
  have hlen : (l.take j).length = j := by rw [List.length_take]; omega
  by_cases hy : y = 1
  · by_cases h1 : a < 8 * j
    · have h2 : a < 8 * l.length := by omega
      rw [if_pos ⟨h2, hy⟩, if_pos ⟨by omega, hy⟩, List.take_set]
      congr 2
      rw [List.getD_eq_getElem?_getD, List.getD_eq_getElem?_getD, List.getElem?_take, if_pos (by omega)]
    · rw [if_neg (c := a < 8 * (l.take j).length ∧ y = 1) (by omega)]
      split
      · rw [List.take_set_of_le (by omega)]
      · rfl
  · rw [if_neg (by omega), if_neg (by omega)]
theorem turn_take (l : List Nat) (a k j : Nat) (hj : j ≤ l.length) : ∀ m, (turn l a k m).take j = turn (l.take j) a k m
  | 0 => rfl
  | m + 1 => by rw [turn, turn, flip_take _ _ _ _ (by rw [turn_length]; exact hj), turn_take l a k j hj m]
theorem flip_drop (l : List Nat) (a y j : Nat) (hj : 8 * j ≤ a) : (flip l a y).drop j = flip (l.drop j) (a - 8 * j) y := by
  unfold flip
  have hlen : (l.drop j).length = l.length - j := List.length_drop
  have e1 : (a - 8 * j) / 8 = a / 8 - j := by omega
  have e2 : (a - 8 * j) % 8 = a % 8 := by omega
  by_cases hy : y = 1 ∧ a < 8 * l.length
  · rw [if_pos ⟨hy.2, hy.1⟩, if_pos ⟨by omega, hy.1⟩, List.drop_set, if_neg (by omega), e1, e2]
    congr 2
    rw [List.getD_eq_getElem?_getD, List.getD_eq_getElem?_getD, List.getElem?_drop]
    congr 2
    omega
  · rw [if_neg (by omega), if_neg (by omega)]
theorem turn_drop (l : List Nat) (a k j : Nat) (hj : 8 * j ≤ a) : ∀ m, (turn l a k m).drop j = turn (l.drop j) (a - 8 * j) k m
  | 0 => rfl
  | m + 1 => by
    rw [turn, turn, flip_drop _ _ _ _ (by omega), turn_drop l a k j hj m]
    congr 1
    omega
/-- bits that are noughts turn nothing -/
theorem turn_skip (l : List Nat) (a k : Nat) : ∀ c, k % 2 ^ c = 0 → turn l a k c = l
  | 0, _ => rfl
  | c + 1, h => by
    rw [bit_step] at h
    have h1 : k % 2 ^ c = 0 := by omega
    have hp : 0 < 2 ^ c := Nat.pos_of_ne_zero (by simp)
    have h2 : k / 2 ^ c % 2 = 0 := by
      rcases Nat.mod_two_eq_zero_or_one (k / 2 ^ c) with h0 | h0
      · exact h0
      · rw [h0] at h; omega
    rw [turn, turn_skip l a k c h1, h2]
    unfold flip
    rw [if_neg (by omega)]
theorem turn_later (l : List Nat) (a k c : Nat) (h : k % 2 ^ c = 0) : ∀ m, turn l a k (c + m) = turn l (a + c) (k / 2 ^ c) m
  | 0 => turn_skip l a k c h
  | m + 1 => by
    have e : k / 2 ^ (c + m) = k / 2 ^ c / 2 ^ m := by rw [Nat.div_div_eq_div_mul, Nat.pow_add]
    rw [← Nat.add_assoc, turn, turn, turn_later l a k c h m, e, Nat.add_assoc]
/-- what turned bits make of the register -/
theorem raw_turn (s : Nat) (l : List Nat) (a k : Nat) : ∀ m, a + m ≤ 8 * l.length → raw s (turn l a k m) = raw s l ^^^ it (8 * l.length - a) (k % 2 ^ m)
  | 0, _ => by simp [turn, Nat.mod_one, it_nil]
  | m + 1, h => by
    have ih := raw_turn s l a k m (by omega)
    have hlt : k % 2 ^ m < 2 ^ m := Nat.mod_lt _ (Nat.pos_of_ne_zero (by simp))
    rw [turn, bit_step]
    rcases Nat.mod_two_eq_zero_or_one (k / 2 ^ m) with h0 | h0
    · rw [h0]
      unfold flip
      rw [if_neg (by omega), ih, Nat.mul_zero, Nat.add_zero]
    · rw [h0, Nat.mul_one, flips_step l.length a m _ (by omega) hlt]
      unfold flip
      rw [turn_length, if_pos ⟨by omega, rfl⟩, raw_flip _ s _ _ (Nat.mod_lt _ (by decide)) (by rw [turn_length]; omega), turn_length, ih, Nat.xor_assoc]
/-- bits behind the list's end turn nothing -/
theorem turn_end (l : List Nat) (a k M : Nat) (h : 8 * l.length ≤ a + M) : ∀ m, turn l a k (M + m) = turn l a k M
  | 0 => rfl
  | m + 1 => by
    rw [← Nat.add_assoc, turn, turn_end l a k M h m]
    unfold flip
    rw [if_neg (by rw [turn_length]; omega)]
/-- so many bytes of a number, the least first -/
def les : Nat → Nat → List Nat
  | 0, _ => []
  | n + 1, v => v % 256 :: les n (v / 256)
theorem raw_les : ∀ (n s v : Nat), v < 2 ^ (8 * n) → raw s (les n v) = it (8 * n) (s ^^^ v)
  | 0, s, v, h => by
    have : v = 0 := by simpa using h
    rw [this]
    simp [les, raw, it]
  | n + 1, s, v, h => by
    have hv : v / 256 < 2 ^ (8 * n) := by
      have : 2 ^ (8 * (n + 1)) = 2 ^ (8 * n) * 256 := by rw [Nat.mul_add, Nat.pow_add]
      rw [this] at h
      exact Nat.div_lt_of_lt_mul (by rw [Nat.mul_comm]; exact h)
    have e : v = v % 256 ^^^ 2 ^ 8 * (v / 256) := by
      have h1 := Nat.two_pow_add_eq_or_of_lt (i := 8) (b := v % 256) (by omega) (v / 256)
      have h2 : 2 ^ 8 * (v / 256) + v % 256 = v := by omega
      have h3 : 2 ^ 8 * (v / 256) ||| v % 256 = v % 256 ^^^ 2 ^ 8 * (v / 256) := by
        apply Nat.eq_of_testBit_eq
        intro i
        rw [Nat.testBit_or, Nat.testBit_xor, Nat.testBit_two_pow_mul]
        by_cases hi : 8 ≤ i
        · have : (v % 256).testBit i = false := Nat.testBit_lt_two_pow (Nat.lt_of_lt_of_le (by omega : v % 256 < 2 ^ 8) (Nat.pow_le_pow_right (by decide) hi))
          simp [this]
        · simp [hi]
      rw [← h3, ← h1, h2]
    rw [les, raw_cons, raw_les n _ _ hv]
    have e2 : 8 * (n + 1) = 8 + 8 * n := by omega
    rw [e2, it_add]
    congr 1
    conv => rhs; rw [e, ← Nat.xor_assoc, it_xor, it_pow 8]
theorem word_les (v : Nat) (h : v < 2 ^ 32) : word v = les 4 v := by
  simp only [les, word, List.cons.injEq, and_true]
  refine ⟨trivial, trivial, ?_, ?_⟩ <;> omega
theorem raw_append (s : Nat) (a b : List Nat) : raw s (a ++ b) = raw (raw s a) b := by simp [raw, List.foldl_append]
/-- a list with its sum behind it leaves the register at one and the same number -/
theorem raw_crc (d : List Nat) (hd : ∀ x ∈ d, x < 256) : raw ones (d ++ word (crc d)) = it 32 ones := by
  rw [raw_append, word_les _ (crc_lt d hd), raw_les 4 _ _ (crc_lt d hd)]
  unfold crc
  rw [← Nat.xor_assoc, Nat.xor_self, Nat.zero_xor]
theorem it_inj {n a b : Nat} (ha : a < 2 ^ 32) (hb : b < 2 ^ 32) (h : it n a = it n b) : a = b := by
  have h1 : it n (a ^^^ b) = 0 := by rw [it_xor, h, Nat.xor_self]
  exact xor_eq_zero (it_zero n _ (Nat.xor_lt_two_pow ha hb) h1)
theorem word_unw (s : List Nat) (hs : ∀ x ∈ s, x < 256) (hl : s.length = 4) : word (unw s 0) = s ∧ unw s 0 < 2 ^ 32 := by
  match s, hl with
  | [a, b, c, d], _ =>
    have ha := hs a (by simp)
    have hb := hs b (by simp)
    have hc := hs c (by simp)
    have hd := hs d (by simp)
    simp only [unw, word, List.getD_cons_zero, List.getD_cons_succ, List.cons.injEq, and_true]
    omega
/-- where the sum behind a list is right, the register stands at that number -/
theorem raw_right (d e : List Nat) (hd : ∀ x ∈ d, x < 256) (he : ∀ x ∈ e, x < 256) (hl : e.length = 4) (h : unw e 0 = crc d) : raw ones (d ++ e) = it 32 ones := by
  rw [← (word_unw e he hl).1, h]
  exact raw_crc d hd
/-- turned bits turn the register -/
theorem turn_told (l : List Nat) (a k m : Nat) (hm : m ≤ 32) (ha : a + m ≤ 8 * l.length) (h : raw ones (turn l a k m) = raw ones l) : k % 2 ^ m = 0 := by
  rw [raw_turn ones l a k m ha] at h
  have h1 : it (8 * l.length - a) (k % 2 ^ m) = 0 := by
    have := congrArg (fun x => raw ones l ^^^ x) h
    simpa [← Nat.xor_assoc] using this
  exact it_zero _ _ (Nat.lt_of_lt_of_le (Nat.mod_lt _ (Nat.pos_of_ne_zero (by simp))) (Nat.pow_le_pow_right (by decide) hm)) h1
theorem unw_cut (s : List Nat) (p : Nat) : unw ((s.drop p).take 4) 0 = unw s p := by
  have h : ∀ k, k < 4 → ((s.drop p).take 4).getD k 0 = s.getD (p + k) 0 := fun k hk => by
    rw [List.getD_eq_getElem?_getD, List.getD_eq_getElem?_getD, List.getElem?_take, if_pos hk, List.getElem?_drop]
  unfold unw
  rw [h 0 (by omega), h (0 + 1) (by omega), h (0 + 2) (by omega), h (0 + 3) (by omega)]
  simp only [Nat.add_zero, Nat.zero_add]
theorem cut_byte {s : List Nat} (hs : ∀ x ∈ s, x < 256) (p n : Nat) : ∀ x ∈ (s.drop p).take n, x < 256 := fun x hx => hs x (List.mem_of_mem_drop (List.mem_of_mem_take hx))
theorem frm_take (b : List Nat) : (frm b).take 8 = word b.length ++ word (crc (word b.length)) := by
  have e : frm b = (word b.length ++ word (crc (word b.length))) ++ (b ++ word (crc b)) := by simp only [frm, List.append_assoc]
  rw [e]
  exact List.take_left' (by simp [word])
theorem frm_drop (b : List Nat) : (frm b).drop 8 = b ++ word (crc b) := by
  have e : frm b = (word b.length ++ word (crc (word b.length))) ++ (b ++ word (crc b)) := by simp only [frm, List.append_assoc]
  rw [e]
  exact List.drop_left' (by simp [word])
/-- what a reading that is not refused says of the stream -/
theorem nxt_said {s : List Nat} {p : Nat} (h : (nxt s p).2.2 = 0) : unw s (p + 4) = crc ((s.drop p).take 4) ∧ unw s p ≤ top ∧ p + unw s p + 12 ≤ s.length ∧ unw s (p + 8 + unw s p) = crc ((s.drop (p + 8)).take (unw s p)) := by
  unfold nxt at h
  split at h
  · simp at h
  split at h
  · simp at h
  split at h
  · simp at h
  split at h
  · simp at h
  split at h
  · simp at h
  · rename_i h1 h2 h3 h4 h5
    exact ⟨Decidable.not_not.1 h2, by omega, by omega, Decidable.not_not.1 h5⟩
/-- bits turned behind the head -/
theorem told_late (b : List Nat) (a k M : Nat) (hb : ∀ x ∈ b, x < 256) (hl : b.length ≤ top) (hM : M ≤ 32) (h64 : 64 ≤ a) (ha : a + M ≤ 8 * (b.length + 12)) (h : (nxt (turn (frm b) a k M) 0).2.2 = 0) : k % 2 ^ M = 0 := by
  have hlen : (turn (frm b) a k M).length = b.length + 12 := by rw [turn_length, frm_length]
  have htk : (turn (frm b) a k M).take 8 = (frm b).take 8 := by
    rw [turn_take _ _ _ 8 (by rw [frm_length]; omega)]
    have := turn_end ((frm b).take 8) a k 0 (by rw [List.length_take]; omega) M
    rw [Nat.zero_add] at this
    exact this
  have hby := turn_byte (frm_byte b hl hb) a k M
  have hn : unw (turn (frm b) a k M) 0 = b.length := by
    have e : ((turn (frm b) a k M).drop 0).take 4 = word b.length := by
      have h4 : (turn (frm b) a k M).take 4 = ((turn (frm b) a k M).take 8).take 4 := by rw [List.take_take]; rfl
      rw [List.drop_zero, h4, htk, frm_take]
      rfl
    have h5 := unw_cut (turn (frm b) a k M) 0
    rw [e] at h5
    rw [← h5]
    have := unw_word b.length []
    rwa [List.append_nil] at this
  obtain ⟨_, _, _, h4⟩ := nxt_said h
  rw [hn] at h4
  simp only [Nat.zero_add] at h4
  have hsp : (turn (frm b) a k M).drop 8 = ((turn (frm b) a k M).drop 8).take b.length ++ ((turn (frm b) a k M).drop (8 + b.length)).take 4 := by
    conv => lhs; rw [← List.take_append_drop b.length ((turn (frm b) a k M).drop 8), List.drop_drop]
    congr 1
    rw [List.take_of_length_le]
    rw [List.length_drop]
    omega
  have hr : raw ones ((turn (frm b) a k M).drop 8) = it 32 ones := by
    rw [hsp]
    exact raw_right _ _ (cut_byte hby _ _) (cut_byte hby _ _) (by rw [List.length_take, List.length_drop]; omega) (by rw [unw_cut, h4])
  have hr2 : raw ones ((frm b).drop 8) = it 32 ones := by
    rw [frm_drop]
    exact raw_crc b hb
  rw [turn_drop _ _ _ 8 (by omega)] at hr
  exact turn_told ((frm b).drop 8) (a - 8 * 8) k M hM (by rw [List.length_drop, frm_length]; omega) (hr.trans hr2.symm)
/-- TURNED BITS OF A FRAME ARE TOLD -/
theorem told (b : List Nat) (a k M : Nat) (hb : ∀ x ∈ b, x < 256) (hl : b.length ≤ top) (hM : M ≤ 32) (ha : a + M ≤ 8 * (b.length + 12)) (h : (nxt (turn (frm b) a k M) 0).2.2 = 0) : k % 2 ^ M = 0 := by
  by_cases h64 : 64 ≤ a
  · exact told_late b a k M hb hl hM h64 ha h
  · have hby := turn_byte (frm_byte b hl hb) a k M
    have hlen : (turn (frm b) a k M).length = b.length + 12 := by rw [turn_length, frm_length]
    have hlt : ((frm b).take 8).length = 8 := by rw [List.length_take, frm_length]; omega
    obtain ⟨h1, _, _, _⟩ := nxt_said h
    rw [Nat.zero_add, List.drop_zero] at h1
    have hsp : (turn (frm b) a k M).take 8 = (turn (frm b) a k M).take 4 ++ ((turn (frm b) a k M).drop 4).take 4 := by
      rw [show 8 = 4 + 4 from rfl, List.take_add]
    have hr : raw ones ((turn (frm b) a k M).take 8) = it 32 ones := by
      rw [hsp]
      have hd : ∀ x ∈ (turn (frm b) a k M).take 4, x < 256 := fun x hx => hby x (List.mem_of_mem_take hx)
      exact raw_right _ _ hd (cut_byte hby _ _) (by rw [List.length_take, List.length_drop]; omega) (by rw [unw_cut, h1])
    have hr2 : raw ones ((frm b).take 8) = it 32 ones := by
      rw [frm_take]
      exact raw_crc _ (word_lt _ (by unfold top at hl; omega))
    rw [turn_take _ _ _ 8 (by rw [frm_length]; omega)] at hr
    by_cases hc : M ≤ 64 - a
    · exact turn_told ((frm b).take 8) a k M hM (by omega) (hr.trans hr2.symm)
    · obtain ⟨c, hcd⟩ : ∃ c, c = 64 - a := ⟨_, rfl⟩
      obtain ⟨m, hm⟩ : ∃ m, M = c + m := ⟨M - c, by omega⟩
      subst hm
      have he := turn_end ((frm b).take 8) a k c (by omega) m
      rw [he] at hr
      have h0 : k % 2 ^ c = 0 := turn_told ((frm b).take 8) a k c (by omega) (by omega) (hr.trans hr2.symm)
      rw [turn_later _ _ _ _ h0] at h
      have hq := told_late b (a + c) (k / 2 ^ c) m hb hl (by omega) (by omega) (by omega) h
      rw [Nat.pow_add, Nat.mod_mul, h0, hq]
      simp
end Pk
end
end
section
namespace Pk
open Oc
theorem als_fuel (s : List Nat) : ∀ (f g p : Nat), s.length < p + f → s.length < p + g → als s f p = als s g p
  | 0, 0, _, _, _ => rfl
  | 0, g + 1, p, hf, _ => by
    simp only [als]
    rw [if_neg (by rw [nxt_end s p (by omega)]; simp)]
  | f + 1, 0, p, _, hg => by
    simp only [als]
    rw [if_neg (by rw [nxt_end s p (by omega)]; simp)]
  | f + 1, g + 1, p, hf, hg => by
    simp only [als]
    by_cases h : (nxt s p).2.2 = 0
    · have hq := nxt_ok (s := s) (p := p) (q := (nxt s p).2.1) (b := (nxt s p).1) (by rw [← h])
      rw [if_pos h, if_pos h, als_fuel s f g (nxt s p).2.1 (by omega) (by omega)]
    · rw [if_neg h, if_neg h]
/-- all frames from a place on, and the place behind them -/
def alls (s : List Nat) (p : Nat) : List (List Nat) × Nat := als s (s.length + 1) p
theorem alls_stop {s : List Nat} {p : Nat} (h : (nxt s p).2.2 ≠ 0) : alls s p = ([], p) := by
  unfold alls
  simp only [als, if_neg h]
theorem alls_step {s b : List Nat} {p q : Nat} (h : nxt s p = (b, q, 0)) : alls s p = (b :: (alls s q).1, (alls s q).2) := by
  have hq := nxt_ok h
  unfold alls
  rw [als_fuel s (s.length + 1) (s.length + 1 + 1) p (by omega) (by omega)]
  conv => lhs; unfold als
  rw [h, if_pos rfl]
theorem alls_frms (L : List (List Nat)) (r : List Nat) (hL : ∀ b ∈ L, b.length ≤ top) (hr : (nxt (frms L ++ r) (frms L).length).2.2 ≠ 0) : alls (frms L ++ r) 0 = (L, (frms L).length) := by
  have h := als_frms L [] r (L.length + (frms L ++ r).length + 1) hL (by simpa using hr) (by omega)
  simp only [List.nil_append, List.length_nil, Nat.zero_add] at h
  unfold alls
  rw [← h]
  exact als_fuel _ _ _ _ (by omega) (by omega)
theorem frms_take_succ (L : List (List Nat)) (n : Nat) (h : n < L.length) : frms (L.take (n + 1)) = frms (L.take n) ++ frm L[n] := by
  rw [List.take_succ_eq_append_getElem h, frms_append]
  simp [frms]
theorem frms_split (L : List (List Nat)) (n : Nat) : frms L = frms (L.take n) ++ frms (L.drop n) := by rw [← frms_append, List.take_append_drop]
/-- a stream that is cut: its first n frames are whole, no more -/
theorem alls_cut (L : List (List Nat)) (cut n : Nat) (hL : ∀ b ∈ L, b.length ≤ top) (hn : n ≤ L.length) (h1 : (frms (L.take n)).length ≤ cut) (h2 : n < L.length → cut < (frms (L.take (n + 1))).length) :
    alls ((frms L).take cut) 0 = (L.take n, (frms (L.take n)).length) := by
  have ht : ∀ b ∈ L.take n, b.length ≤ top := fun b hb => hL b (List.mem_of_mem_take hb)
  by_cases h : n < L.length
  · have h3 := h2 h
    rw [frms_take_succ L n h, List.length_append, frm_length] at h3
    have hk : cut - (frms (L.take n)).length < L[n].length + 12 := by omega
    have e : (frms L).take cut = frms (L.take n) ++ (frm L[n]).take (cut - (frms (L.take n)).length) := by
      rw [frms_split L (n + 1), frms_take_succ L n h, List.append_assoc, List.take_append, List.take_of_length_le h1, List.take_append_of_le_length (by rw [frm_length]; omega)]
    rw [e]
    have hcut := nxt_cut (frms (L.take n)) L[n] _ (hL _ (List.getElem_mem h)) hk
    exact alls_frms (L.take n) _ ht (by rw [hcut]; simp)
  · have e : n = L.length := by omega
    subst e
    rw [List.take_length] at h1 ⊢
    rw [List.take_of_length_le (by omega)]
    have := alls_frms L [] hL (by rw [List.append_nil, nxt_end _ _ (Nat.le_refl _)]; simp)
    rwa [List.append_nil] at this
/-- frames one behind the other, an unfinished one behind them -/
theorem alls_unfinished (L : List (List Nat)) (b : List Nat) (k : Nat) (hL : ∀ b ∈ L, b.length ≤ top) (hb : b.length ≤ top) (hk : k < b.length + 12) : alls (frms L ++ (frm b).take k) 0 = (L, (frms L).length) :=
  alls_frms L _ hL (by rw [nxt_cut (frms L) b k hb hk]; simp)
theorem frms_len (L : List (List Nat)) : (frms L).length = (L.map fun b => b.length + 12).sum := by
  induction L with
  | nil => rfl
  | cons b L ih => rw [frms_cons, List.length_append, frm_length, ih, List.map_cons, List.sum_cons]
end Pk
end
end Go.Proofs.YtcnoihdfbifgfaaGreatDoor
