/-
  PLAIN MATHEMATICS, NO DUMP: the field of 256 elements on natural numbers below 256: 'gd' doubles, 'gm' multiplies bit by bit, 'ge' is the power of 2, 'gl' the logarithm. Conditions: elements lie below 256 wherever a lemma says so.
-/
namespace Go.Proofs.Ytmaekebebllncaa.Gf

/-- twice an element below 256 -/
def gd (a : Nat) : Nat := if 128 ≤ a then (2 * a - 256) ^^^ 29 else 2 * a
/-- the product, bit by bit, of so many bits -/
def gmf : Nat → Nat → Nat → Nat
  | 0, _, _ => 0
  | n + 1, a, b => (if b % 2 = 1 then a else 0) ^^^ gmf n (gd a) (b / 2)
def gm (a b : Nat) : Nat := gmf 8 a b
def ge : Nat → Nat
  | 0 => 1
  | n + 1 => gd (ge n)
def glf : Nat → Nat → Nat → Nat → Nat
  | 0, _, n, _ => n
  | f + 1, x, n, a => if x = a then n else glf f (gd x) (n + 1) a
def gl (a : Nat) : Nat := glf 255 1 0 a

theorem gd_lt (a : Nat) (h : a < 256) : gd a < 256 := by
  unfold gd
  split
  · exact Nat.xor_lt_two_pow (n := 8) (by omega) (by omega)
  · omega
theorem gd_zero : gd 0 = 0 := rfl
theorem gd_ne (a : Nat) (h : a < 256) (h0 : a ≠ 0) : gd a ≠ 0 := by
  have : ∀ a : Fin 256, a.val ≠ 0 → gd a.val ≠ 0 := by decide +kernel
  exact this ⟨a, h⟩ h0
theorem xor4 (p q r s : Nat) : (p ^^^ q) ^^^ (r ^^^ s) = (p ^^^ r) ^^^ (q ^^^ s) := by
  rw [Nat.xor_assoc, Nat.xor_assoc, ← Nat.xor_assoc q r s, ← Nat.xor_assoc r q s, Nat.xor_comm q r]
theorem xor_mid (c e d : Nat) : (c ^^^ e) ^^^ (e ^^^ d) = c ^^^ d := by
  rw [Nat.xor_assoc, ← Nat.xor_assoc e e d, Nat.xor_self, Nat.zero_xor]
theorem gd_eq (a : Nat) (h : a < 256) : gd a = (a <<< 1) ^^^ (285 * (a / 128)) := by
  have H : ∀ a : Fin 256, gd a.val = (a.val <<< 1) ^^^ (285 * (a.val / 128)) := by decide +kernel
  exact H ⟨a, h⟩
theorem xor_lt {a b : Nat} (ha : a < 256) (hb : b < 256) : a ^^^ b < 256 := Nat.xor_lt_two_pow (n := 8) (by omega) (by omega)
theorem gd_xor (a b : Nat) (ha : a < 256) (hb : b < 256) : gd (a ^^^ b) = gd a ^^^ gd b := by
  rw [gd_eq _ (xor_lt ha hb), gd_eq a ha, gd_eq b hb, Nat.shiftLeft_xor_distrib, xor4]
  congr 1
  have h : (a ^^^ b) / 128 = (a / 128) ^^^ (b / 128) := by
    have := Nat.xor_div_two_pow (a := a) (b := b) (n := 7)
    simpa using this
  rw [h]
  have h1 : a / 128 = 0 ∨ a / 128 = 1 := by omega
  have h2 : b / 128 = 0 ∨ b / 128 = 1 := by omega
  rcases h1 with h1 | h1 <;> rcases h2 with h2 | h2 <;> simp [h1, h2]
theorem gmf_lt (n a b : Nat) (ha : a < 256) : gmf n a b < 256 := by
  induction n generalizing a b with
  | zero => simp [gmf]
  | succ n ih =>
    unfold gmf
    exact xor_lt (by split <;> omega) (ih _ _ (gd_lt a ha))
theorem gm_lt (a b : Nat) (ha : a < 256) : gm a b < 256 := gmf_lt _ _ _ ha
theorem gmf_zero_right (n a : Nat) : gmf n a 0 = 0 := by
  induction n generalizing a with
  | zero => rfl
  | succ n ih => simp [gmf, ih]
theorem gmf_zero_left (n b : Nat) : gmf n 0 b = 0 := by
  induction n generalizing b with
  | zero => rfl
  | succ n ih => simp [gmf, ih, gd_zero]
theorem gm_zero_right (a : Nat) : gm a 0 = 0 := gmf_zero_right _ _
theorem gm_zero_left (b : Nat) : gm 0 b = 0 := gmf_zero_left _ _
theorem gmf_gd (n a b : Nat) (ha : a < 256) : gmf n (gd a) b = gd (gmf n a b) := by
  induction n generalizing a b with
  | zero => rfl
  | succ n ih =>
    unfold gmf
    rw [ih _ _ (gd_lt a ha), gd_xor _ _ (by split <;> omega) (gmf_lt _ _ _ (gd_lt a ha))]
    congr 1
    split <;> rfl
theorem gm_gd (a b : Nat) (ha : a < 256) : gm (gd a) b = gd (gm a b) := gmf_gd _ _ _ ha
theorem gmf_xor_left (n a b c : Nat) (ha : a < 256) (hb : b < 256) : gmf n (a ^^^ b) c = gmf n a c ^^^ gmf n b c := by
  induction n generalizing a b c with
  | zero => simp [gmf]
  | succ n ih =>
    unfold gmf
    rw [gd_xor a b ha hb, ih _ _ _ (gd_lt a ha) (gd_lt b hb), xor4]
    congr 1
    split <;> simp
theorem xor_mod_two (b c : Nat) : (b ^^^ c) % 2 = (b % 2) ^^^ (c % 2) := by
  have := Nat.xor_mod_two_pow (a := b) (b := c) (n := 1)
  simpa using this
theorem xor_div_two (b c : Nat) : (b ^^^ c) / 2 = (b / 2) ^^^ (c / 2) := by
  have := Nat.xor_div_two_pow (a := b) (b := c) (n := 1)
  simpa using this
theorem gmf_xor_right (n a b c : Nat) : gmf n a (b ^^^ c) = gmf n a b ^^^ gmf n a c := by
  induction n generalizing a b c with
  | zero => simp [gmf]
  | succ n ih =>
    unfold gmf
    rw [xor_div_two, ih, xor4, xor_mod_two]
    congr 1
    rcases Nat.mod_two_eq_zero_or_one b with h | h <;> rcases Nat.mod_two_eq_zero_or_one c with h' | h' <;> simp [h, h']
theorem gm_xor_right (a b c : Nat) : gm a (b ^^^ c) = gm a b ^^^ gm a c := gmf_xor_right _ _ _ _
theorem gm_xor_left (a b c : Nat) (ha : a < 256) (hb : b < 256) : gm (a ^^^ b) c = gm a c ^^^ gm b c := gmf_xor_left _ _ _ _ ha hb
theorem gmf_more (n a b : Nat) (h : b < 2 ^ n) : gmf (n + 1) a b = gmf n a b := by
  induction n generalizing a b with
  | zero =>
    obtain rfl : b = 0 := by simpa using h
    simp [gmf]
  | succ n ih =>
    have hb : b / 2 < 2 ^ n := by rw [Nat.pow_succ] at h; omega
    rw [gmf, ih _ _ hb]; rfl
theorem gm_step (a b : Nat) (hb : b < 256) : gm a b = (if b % 2 = 1 then a else 0) ^^^ gm (gd a) (b / 2) := by
  unfold gm
  rw [gmf_more 7 (gd a) (b / 2) (by omega), gmf]
theorem gm_one_left (b : Nat) (hb : b < 256) : gm 1 b = b := by
  have H : ∀ b : Fin 256, gm 1 b.val = b.val := by decide +kernel
  exact H ⟨b, hb⟩

/-! ### powers of 2 -/
theorem ge_lt (n : Nat) : ge n < 256 := by
  induction n with
  | zero => decide
  | succ n ih => exact gd_lt _ ih
theorem ge_ne (n : Nat) : ge n ≠ 0 := by
  induction n with
  | zero => decide
  | succ n ih => exact gd_ne _ (ge_lt n) ih
theorem ge_255 : ge 255 = 1 := by decide +kernel
theorem ge_period (n : Nat) : ge (n + 255) = ge n := by
  induction n with
  | zero => exact ge_255
  | succ n ih => rw [show n + 1 + 255 = (n + 255) + 1 by omega]; show gd _ = gd _; rw [ih]
theorem ge_add_mul (n k : Nat) : ge (n + 255 * k) = ge n := by
  induction k with
  | zero => rfl
  | succ k ih => rw [show n + 255 * (k + 1) = (n + 255 * k) + 255 by omega, ge_period, ih]
theorem ge_mod (n : Nat) : ge (n % 255) = ge n := by
  have := ge_add_mul (n % 255) (n / 255)
  rw [Nat.mod_add_div] at this
  exact this.symm
theorem gl_spec (a : Nat) (ha : a < 256) (h0 : a ≠ 0) : ge (gl a) = a ∧ gl a < 255 := by
  have H : ∀ a : Fin 256, a.val ≠ 0 → ge (gl a.val) = a.val ∧ gl a.val < 255 := by decide +kernel
  exact H ⟨a, ha⟩ h0
theorem gl_ge (n : Nat) (h : n < 255) : gl (ge n) = n := by
  have H : ∀ n : Fin 255, gl (ge n.val) = n.val := by decide +kernel
  exact H ⟨n, h⟩
theorem gl_ge_mod (n : Nat) : gl (ge n) = n % 255 := by
  rw [← ge_mod, gl_ge _ (Nat.mod_lt _ (by decide))]
theorem gm_ge_ge (i j : Nat) : gm (ge i) (ge j) = ge (i + j) := by
  induction i with
  | zero => rw [Nat.zero_add]; exact gm_one_left _ (ge_lt j)
  | succ i ih => show gm (gd (ge i)) _ = _; rw [gm_gd _ _ (ge_lt i), ih, show i + 1 + j = (i + j) + 1 by omega]; rfl
theorem gl_exists (a : Nat) (ha : a < 256) (h0 : a ≠ 0) : ∃ i, i < 255 ∧ a = ge i := ⟨gl a, (gl_spec a ha h0).2, (gl_spec a ha h0).1.symm⟩
theorem gm_comm (a b : Nat) (ha : a < 256) (hb : b < 256) : gm a b = gm b a := by
  by_cases h : a = 0
  · subst h; rw [gm_zero_left, gm_zero_right]
  by_cases h' : b = 0
  · subst h'; rw [gm_zero_left, gm_zero_right]
  obtain ⟨i, _, rfl⟩ := gl_exists a ha h
  obtain ⟨j, _, rfl⟩ := gl_exists b hb h'
  rw [gm_ge_ge, gm_ge_ge, Nat.add_comm]
theorem gm_assoc (a b c : Nat) (ha : a < 256) (hb : b < 256) (hc : c < 256) : gm a (gm b c) = gm (gm a b) c := by
  by_cases h : a = 0
  · subst h; simp only [gm_zero_left]
  by_cases h' : b = 0
  · subst h'; simp only [gm_zero_left, gm_zero_right]
  by_cases h'' : c = 0
  · subst h''; simp only [gm_zero_right]
  obtain ⟨i, _, rfl⟩ := gl_exists a ha h
  obtain ⟨j, _, rfl⟩ := gl_exists b hb h'
  obtain ⟨k, _, rfl⟩ := gl_exists c hc h''
  rw [gm_ge_ge, gm_ge_ge, gm_ge_ge, gm_ge_ge, Nat.add_assoc]
theorem gm_one_right (a : Nat) (ha : a < 256) : gm a 1 = a := by rw [gm_comm a 1 ha (by omega), gm_one_left a ha]
theorem gm_ne (a b : Nat) (ha : a < 256) (hb : b < 256) (h : a ≠ 0) (h' : b ≠ 0) : gm a b ≠ 0 := by
  obtain ⟨i, _, rfl⟩ := gl_exists a ha h
  obtain ⟨j, _, rfl⟩ := gl_exists b hb h'
  rw [gm_ge_ge]
  exact ge_ne _
theorem gm_eq_zero (a b : Nat) (ha : a < 256) (hb : b < 256) : gm a b = 0 ↔ a = 0 ∨ b = 0 := by
  constructor
  · intro h
    by_cases h1 : a = 0
    · exact Or.inl h1
    by_cases h2 : b = 0
    · exact Or.inr h2
    exact absurd h (gm_ne a b ha hb h1 h2)
  · rintro (rfl | rfl)
    · exact gm_zero_left _
    · exact gm_zero_right _
theorem gl_gm (a b : Nat) (ha : a < 256) (hb : b < 256) (h : a ≠ 0) (h' : b ≠ 0) : gl (gm a b) = (gl a + gl b) % 255 := by
  have e : gm a b = ge (gl a + gl b) := by
    rw [← gm_ge_ge, (gl_spec a ha h).1, (gl_spec b hb h').1]
  rw [e, gl_ge_mod]

/-! ### powers of any element: by a number from 0 on ('gpn'), by an integer ('gp') -/
/-- the power by n of an element: the product with itself so often -/
def gpn (a : Nat) : Nat → Nat
  | 0 => 1
  | n + 1 => gm (gpn a n) a
theorem gpn_lt (a n : Nat) : gpn a n < 256 := by
  induction n with
  | zero => show 1 < 256; omega
  | succ n ih => exact gm_lt _ _ ih
theorem gpn_zero_base (n : Nat) (h : n ≠ 0) : gpn 0 n = 0 := by
  cases n with
  | zero => exact absurd rfl h
  | succ n => exact gm_zero_right _
theorem gm_two (a : Nat) (ha : a < 256) : gm a 2 = gd a := by rw [gm_comm a 2 ha (by decide)]; show gm (gd 1) a = _; rw [gm_gd _ _ (by decide), gm_one_left a ha]
theorem gpn_ge (i n : Nat) : gpn (ge i) n = ge (i * n) := by
  induction n with
  | zero => rfl
  | succ n ih => unfold gpn; rw [ih, gm_ge_ge, Nat.mul_succ]
/-- the power by an integer -/
def gp (a : Nat) (n : Int) : Nat := if n = 0 then 1 else if a = 0 then 0 else ge (gl a * (n % 255).toNat)
theorem gp_lt (a : Nat) (n : Int) : gp a n < 256 := by
  unfold gp
  split
  · decide
  split
  · decide
  exact ge_lt _
theorem gp_ge (i : Nat) (n : Int) : gp (ge i) n = ge (i * (n % 255).toNat) := by
  unfold gp
  rw [if_neg (ge_ne i)]
  split
  · rename_i h; subst h; rfl
  · rw [gl_ge_mod, ← ge_mod, Nat.mod_mul_mod, ge_mod]
theorem gpn_gp (a : Nat) (ha : a < 256) (h : a ≠ 0) (n : Int) : gpn a (n % 255).toNat = gp a n := by
  obtain ⟨i, _, rfl⟩ := gl_exists a ha h
  rw [gpn_ge, gp_ge]
theorem gp_neg_one (a : Nat) (ha : a < 256) (h : a ≠ 0) : gm (gp a (-1)) a = 1 := by
  obtain ⟨i, _, rfl⟩ := gl_exists a ha h
  rw [gp_ge, gm_ge_ge, show ((-1 : Int) % 255).toNat = 254 by decide, show i * 254 + i = 0 + 255 * i by omega, ge_add_mul]
  rfl
theorem gpn_254 (a : Nat) (ha : a < 256) (h : a ≠ 0) : gpn a 254 = gp a (-1) := by
  rw [← gpn_gp a ha h]; rfl
theorem gp_add (a : Nat) (ha : a < 256) (h : a ≠ 0) (m n : Int) : gp a (m + n) = gm (gp a m) (gp a n) := by
  obtain ⟨i, _, rfl⟩ := gl_exists a ha h
  rw [gp_ge, gp_ge, gp_ge, gm_ge_ge, ← Nat.mul_add, ← ge_mod, ← ge_mod (i * ((m % 255).toNat + _)), Nat.mul_mod, Nat.mul_mod i (_ + _)]
  congr 3
  omega
theorem gp_gm (a b : Nat) (ha : a < 256) (hb : b < 256) (m : Int) : gp (gm a b) m = gm (gp a m) (gp b m) := by
  by_cases hm : m = 0
  · subst hm; simp [gp, gm_one_left]
  by_cases h : a = 0
  · subst h; rw [gm_zero_left]; simp [gp, hm, gm_zero_left]
  by_cases h' : b = 0
  · subst h'; rw [gm_zero_right]; simp [gp, hm, gm_zero_right]
  obtain ⟨i, _, rfl⟩ := gl_exists a ha h
  obtain ⟨j, _, rfl⟩ := gl_exists b hb h'
  rw [gm_ge_ge, gp_ge, gp_ge, gp_ge, gm_ge_ge, Nat.add_mul]
theorem ge_gp (n : Int) : gp 2 n = ge (n % 255).toNat := by
  have : (2 : Nat) = ge 1 := rfl
  rw [this, gp_ge, Nat.one_mul]

/-! ### the values of polynomials -/
def gev (p : List Nat) (x : Nat) : Nat := p.foldl (fun v c => gm v x ^^^ c) 0
theorem gev_lt_aux (p : List Nat) (x v : Nat) (hv : v < 256) (hp : ∀ c ∈ p, c < 256) : p.foldl (fun v c => gm v x ^^^ c) v < 256 := by
  induction p generalizing v with
  | nil => exact hv
  | cons c p ih => exact ih _ (xor_lt (gm_lt _ _ hv) (hp c (by simp))) (fun c hc => hp c (by simp [hc]))
theorem gev_lt (p : List Nat) (x : Nat) (hp : ∀ c ∈ p, c < 256) : gev p x < 256 := gev_lt_aux p x 0 (by decide) hp
theorem gev_snoc (p : List Nat) (c x : Nat) : gev (p ++ [c]) x = gm (gev p x) x ^^^ c := by simp [gev]

/-! ### products of linear factors -/
def gevA (v : Nat) (p : List Nat) (x : Nat) : Nat := p.foldl (fun v c => gm v x ^^^ c) v
theorem gevA_lt (p : List Nat) (x v : Nat) (hv : v < 256) (hp : ∀ c ∈ p, c < 256) : gevA v p x < 256 := gev_lt_aux p x v hv hp
theorem gevA_xor (x : Nat) : ∀ (a b : List Nat) (u v : Nat), a.length = b.length → u < 256 → v < 256 → (∀ c ∈ a, c < 256) → (∀ c ∈ b, c < 256) →
    gevA (u ^^^ v) (List.zipWith (· ^^^ ·) a b) x = gevA u a x ^^^ gevA v b x
  | [], [], _, _, _, _, _, _, _ => rfl
  | c :: a, d :: b, u, v, hl, hu, hv, ha, hb => by
    have hc := ha c (by simp)
    have hd := hb d (by simp)
    show gevA (gm (u ^^^ v) x ^^^ (c ^^^ d)) (List.zipWith (· ^^^ ·) a b) x = gevA (gm u x ^^^ c) a x ^^^ gevA (gm v x ^^^ d) b x
    rw [gm_xor_left u v x hu hv, xor4]
    exact gevA_xor x a b _ _ (by simpa using hl) (xor_lt (gm_lt _ _ hu) hc) (xor_lt (gm_lt _ _ hv) hd) (fun c h => ha c (by simp [h])) (fun c h => hb c (by simp [h]))
theorem gevA_mul (x r : Nat) (hx : x < 256) (hr : r < 256) : ∀ (p : List Nat) (v : Nat), v < 256 → (∀ c ∈ p, c < 256) → gevA (gm v r) (p.map fun c => gm c r) x = gm (gevA v p x) r
  | [], _, _, _ => rfl
  | c :: p, v, hv, hp => by
    have hc := hp c (by simp)
    show gevA (gm (gm v r) x ^^^ gm c r) (p.map fun c => gm c r) x = gm (gevA (gm v x ^^^ c) p x) r
    have e : gm (gm v r) x ^^^ gm c r = gm (gm v x ^^^ c) r := by
      rw [gm_xor_left _ _ _ (gm_lt _ _ hv) hc, ← gm_assoc v r x hv hr hx, gm_comm r x hr hx, gm_assoc v x r hv hx hr]
    rw [e]
    exact gevA_mul x r hx hr p _ (xor_lt (gm_lt _ _ hv) hc) (fun c h => hp c (by simp [h]))
/-- times (X + r) -/
def mulLin (p : List Nat) (r : Nat) : List Nat := List.zipWith (· ^^^ ·) (p ++ [0]) (0 :: p.map fun c => gm c r)
theorem mulLin_length (p : List Nat) (r : Nat) : (mulLin p r).length = p.length + 1 := by simp [mulLin]
theorem mulLin_lt (p : List Nat) (r : Nat) (hp : ∀ c ∈ p, c < 256) : ∀ c ∈ mulLin p r, c < 256 := by
  intro c hc
  obtain ⟨k, hk, rfl⟩ := List.getElem_of_mem hc
  simp only [mulLin, List.getElem_zipWith]
  refine xor_lt ?_ ?_
  · have : ∀ c ∈ p ++ [0], c < 256 := fun c h => by
      rcases List.mem_append.1 h with h | h
      · exact hp c h
      · simp at h; omega
    exact this _ (List.getElem_mem _)
  · have : ∀ c ∈ 0 :: p.map (fun c => gm c r), c < 256 := fun c h => by
      rcases List.mem_cons.1 h with h | h
      · omega
      · obtain ⟨d, hd, rfl⟩ := List.mem_map.1 h
        exact gm_lt _ _ (hp d hd)
    exact this _ (List.getElem_mem _)
theorem mulLin_get (p : List Nat) (r k : Nat) (hk : k < p.length + 1) : (mulLin p r).getD k 0 = p.getD k 0 ^^^ (if 0 < k then gm (p.getD (k - 1) 0) r else 0) := by
  have h1 : k < (mulLin p r).length := by rw [mulLin_length]; exact hk
  rw [List.getD_eq_getElem?_getD, List.getElem?_eq_getElem h1]
  simp only [mulLin, List.getElem_zipWith, Option.getD_some]
  congr 1
  · rcases Nat.lt_or_ge k p.length with h | h
    · simp [List.getElem_append_left h, h]
    · obtain rfl : k = p.length := by omega
      simp
  · cases k with
    | zero => simp
    | succ k =>
      have : k < p.length := by omega
      simp [this]
theorem gev_mulLin (p : List Nat) (r x : Nat) (hr : r < 256) (hx : x < 256) (hp : ∀ c ∈ p, c < 256) : gev (mulLin p r) x = gm (gev p x) (x ^^^ r) := by
  have h0 : gev (mulLin p r) x = gevA (0 ^^^ 0) (mulLin p r) x := rfl
  rw [h0]
  unfold mulLin
  rw [gevA_xor x (p ++ [0]) (0 :: p.map fun c => gm c r) 0 0 (by simp) (by decide) (by decide) (fun c h => ?_) (fun c h => ?_)]
  · have h1 : gevA 0 (p ++ [0]) x = gm (gev p x) x := by
      have := gev_snoc p 0 x
      rw [Nat.xor_zero] at this
      exact this
    have h2 : gevA 0 (0 :: p.map fun c => gm c r) x = gm (gev p x) r := by
      have e : gevA 0 (0 :: p.map fun c => gm c r) x = gevA (gm 0 r) (p.map fun c => gm c r) x := by
        show gevA (gm 0 x ^^^ 0) _ x = _
        rw [gm_zero_left, gm_zero_left]
        rfl
      rw [e]
      exact gevA_mul x r hx hr p 0 (by decide) hp
    rw [h1, h2, gm_xor_right]
  · rcases List.mem_append.1 h with h | h
    · exact hp c h
    · simp at h; omega
  · rcases List.mem_cons.1 h with h | h
    · omega
    · obtain ⟨d, hd, rfl⟩ := List.mem_map.1 h
      exact gm_lt _ _ (hp d hd)
/-- the product of the linear factors of these roots -/
def poly (R : List Nat) : List Nat := R.foldl mulLin [1]
theorem poly_snoc (R : List Nat) (r : Nat) : poly (R ++ [r]) = mulLin (poly R) r := by simp [poly]
theorem poly_facts (R : List Nat) (x : Nat) (hx : x < 256) (n : Nat) (hn : n ≤ R.length) (hR : ∀ c ∈ R, c < 256) :
    (poly (R.take n)).length = n + 1 ∧ (∀ c ∈ poly (R.take n), c < 256) ∧ gev (poly (R.take n)) x < 256 ∧ (gev (poly (R.take n)) x = 0 ↔ x ∈ R.take n) := by
  induction n with
  | zero =>
    have e : gev [1] x = 1 := by
      show gm 0 x ^^^ 1 = 1
      rw [gm_zero_left]; rfl
    simp only [List.take_zero, poly, List.foldl_nil]
    refine ⟨rfl, by simp, by omega, ?_⟩
    rw [e]
    simp
  | succ n ih =>
    obtain ⟨h1, h2, h3, h4⟩ := ih (by omega)
    have hr : R[n] < 256 := hR _ (List.getElem_mem _)
    have e : R.take (n + 1) = R.take n ++ [R[n]] := List.take_succ_eq_append_getElem (by omega)
    rw [e, poly_snoc]
    have hxr := xor_lt hx hr
    refine ⟨by rw [mulLin_length, h1], mulLin_lt _ _ h2, ?_, ?_⟩
    · rw [gev_mulLin _ _ _ hr hx h2]
      exact gm_lt _ _ h3
    · rw [gev_mulLin _ _ _ hr hx h2, gm_eq_zero _ _ h3 hxr, h4, List.mem_append]
      have : x ^^^ R[n] = 0 ↔ x = R[n] := by
        constructor
        · intro h
          have := congrArg (· ^^^ R[n]) h
          simpa [Nat.xor_assoc] using this
        · intro h
          rw [← h, Nat.xor_self]
      rw [this]
      simp

end Go.Proofs.Ytmaekebebllncaa.Gf
