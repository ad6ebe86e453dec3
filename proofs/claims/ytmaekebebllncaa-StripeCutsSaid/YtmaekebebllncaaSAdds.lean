/-
  PROVED: whatever two slices of bytes and numbers come in, the law StripeAdds returns true, and the bytes read afterwards as before. No condition.
-/
import Derived.Test.YtmaekebebllncaaSH
import Derived.Test.YtmaekebebllncaaOI
import Derived.Deep.RegionHeld3
import Derived.Deep.AppendLies
namespace Go.Proofs.Ytmaekebebllncaa
open Go.ChangeShapes Go.WideShapes Go.ChangeAt Go.RowKit Gf Go.Sort Go.Shelf
set_option linter.unusedVariables false

instance (s k n : Int) : Decidable (FitsS s k n) := by unfold FitsS; infer_instance
/-- how many chunks, which, and the number that Encode answers -/
def rowsS (n : Nat) (k N : Int) : Nat := if FitsS n k N then N.toNat else 0
def chunkS (b : List Nat) (k N : Int) : List (List Nat) := if FitsS b.length k N then chunksOf b k.toNat N.toNat else []
def codeS (n : Nat) (k N : Int) : Int := if FitsS n k N then 0 else 2
theorem Encode_any (A : Option Addr) (n c B : Nat) (k N : Int) (b : List Nat) (hc : n ≤ c) (w : World) (h : Bs w B A n b) (hB : B ≤ w.heap.size) :
    Calls Try.prog 10 #[.slice A n c, .int .i64 k, .int .i64 N] w (OutR (rowsS n k N) (chunkS b k N) (codeS n k N) w) := by
  have hl := h.1
  unfold rowsS chunkS codeS
  rw [hl]
  by_cases hf : FitsS (n : Int) k N
  · rw [if_pos hf, if_pos hf, if_pos hf]
    obtain ⟨⟨h1, h2⟩, ⟨h3, h4⟩, h5, h6⟩ := hf
    have := Encode_yes A n c k.toNat N.toNat B b (by omega) (by omega) (by omega) (by omega) hc w h hB
    unfold chunksOf
    rw [hl]
    rw [Int.toNat_of_nonneg (by omega), Int.toNat_of_nonneg (by omega)] at this
    exact this
  · rw [if_neg hf, if_neg hf, if_neg hf]
    exact Encode_not A n c k N hf w

/-- the sum of two rows -/
def x2 (a b : List Nat) : List Nat := (List.range a.length).map fun i => a.getD i 0 ^^^ b.getD i 0
theorem x2_len (a b : List Nat) : (x2 a b).length = a.length := by simp [x2]
theorem x2_get (a b : List Nat) (i : Nat) (h : a.length = b.length) : (x2 a b).getD i 0 = a.getD i 0 ^^^ b.getD i 0 := by
  by_cases hi : i < a.length
  · simp [x2, List.getD_eq_getElem?_getD, List.getElem?_range hi]
  · simp [x2, List.getD_eq_getElem?_getD, List.getElem?_eq_none (show a.length ≤ i by omega), List.getElem?_eq_none (show b.length ≤ i by omega), List.getElem?_eq_none (show (List.range a.length).length ≤ i by simp; omega)]
theorem getD_lt256 (a : List Nat) (ha : ∀ x ∈ a, x < 256) (i : Nat) : a.getD i 0 < 256 := getD_lt a ha i
theorem x2_lt (a b : List Nat) (ha : ∀ x ∈ a, x < 256) (hb : ∀ x ∈ b, x < 256) : ∀ x ∈ x2 a b, x < 256 := fun x hx => by
  obtain ⟨i, hi, rfl⟩ := List.mem_map.1 hx
  exact xor_lt (getD_lt a ha i) (getD_lt b hb i)
theorem xs_xor (f g : Nat → Nat) (n : Nat) : xs (fun i => f i ^^^ g i) n = xs f n ^^^ xs g n := by
  induction n with
  | zero => simp [xs]
  | succ n ih =>
    show xs (fun i => f i ^^^ g i) n ^^^ (f n ^^^ g n) = (xs f n ^^^ f n) ^^^ (xs g n ^^^ g n)
    rw [ih]
    ac_rfl
theorem chunks_add (a b : List Nat) (k N i p : Nat) (hl : a.length = b.length) (ha : ∀ x ∈ a, x < 256) (hb : ∀ x ∈ b, x < 256) (hi : i < N) (hp : p < lenS a.length k) :
    ((chunksOf (x2 a b) k N).getD i []).getD p 0 = ((chunksOf a k N).getD i []).getD p 0 ^^^ ((chunksOf b k N).getD i []).getD p 0 := by
  have hx := x2_lt a b ha hb
  show ent (chunksOf (x2 a b) k N) i p = ent (chunksOf a k N) i p ^^^ ent (chunksOf b k N) i p
  unfold chunksOf
  rw [x2_len, ← hl, ent_enc (shape_dat _ _ k hx) i p hi hp, ent_enc (shape_dat _ _ k ha) i p hi hp, ent_enc (shape_dat _ _ k hb) i p hi hp]
  unfold mm
  rw [← xs_xor]
  refine xs_congr _ _ _ fun t ht => ?_
  have e : ∀ c : List Nat, ent (datM c (lenS a.length k) k) t p = c.getD (t * lenS a.length k + p) 0 := fun c => ent_tab _ _ _ _ _ ht hp
  rw [e, e, e, x2_get _ _ _ hl]
  exact gm_xor_right _ _ _

theorem below_drewN (B : Nat) (w : World) (q : Nat) : RowKit.Below B w (w.drewN q) := ⟨rfl, rfl, rfl, Nat.le_refl _, fun _ _ => rfl⟩
theorem rows_len (b : List Nat) (k N : Int) (i : Nat) (hb : ∀ x ∈ b, x < 256) (hi : i < rowsS b.length k N) : ((chunkS b k N).getD i []).length = lenS b.length k.toNat := by
  unfold rowsS at hi
  unfold chunkS
  split at hi
  · rw [if_pos (by assumption)]
    exact chunks_len b _ _ _ hb hi
  · omega
theorem rows_fit (n : Nat) (k N : Int) (i : Nat) (hi : i < rowsS n k N) : lenS n k.toNat ≤ 65536 := by
  unfold rowsS at hi
  split at hi
  · have h : FitsS n k N := by assumption
    have h1 := lenS_le n k.toNat (by have := h.2.2.1; omega)
    have := h.1.2
    omega
  · omega
theorem rows_le (n : Nat) (k N : Int) : rowsS n k N ≤ 255 := by
  unfold rowsS
  split
  · have h : FitsS n k N := by assumption
    have := h.2.1.2
    omega
  · omega
theorem rows_add (a b : List Nat) (k N : Int) (i p : Nat) (hl : a.length = b.length) (ha : ∀ x ∈ a, x < 256) (hb : ∀ x ∈ b, x < 256) (hi : i < rowsS a.length k N) (hp : p < lenS a.length k.toNat) :
    ((chunkS (x2 a b) k N).getD i []).getD p 0 = ((chunkS a k N).getD i []).getD p 0 ^^^ ((chunkS b k N).getD i []).getD p 0 := by
  unfold rowsS at hi
  split at hi
  · have h : FitsS a.length k N := by assumption
    unfold chunkS
    rw [x2_len, ← hl, if_pos h, if_pos h, if_pos h]
    exact chunks_add a b _ _ _ _ hl ha hb hi hp
  · omega

set_option maxRecDepth 100000 in
set_option maxHeartbeats 400000 in
theorem adds_none (A A' : Option Addr) (n n' c c' : Nat) (k N : Int) (hne : n ≠ n') (w : World) :
    Calls Try.prog 3 #[.slice A n c, .slice A' n' c', .int .i64 k, .int .i64 N] w fun e w' => e = .returned (.bool true) ∧ Below w.heap.size w w' := by
  have hh := heads4_any
  have d : ((n : Int) != (n' : Int)) = true := by simp; omega
  clear hne
  go_enter Try.func3, Try.ntmps3
  go_wp2_with fail
  refine (hh _).mono ?_
  rintro e w1 ⟨rfl, hb⟩
  go_wp2_with fail
  go_ret
  exact ⟨rfl, hb⟩

set_option maxRecDepth 100000 in
set_option maxHeartbeats 4000000 in
theorem adds_some (A A' : Option Addr) (n c c' : Nat) (k N : Int) (a b : List Nat) (hn : n ≤ 140737488351232) (hc : n ≤ c) (hc' : n ≤ c') (w : World) (h0 : Bs w w.heap.size A n a) (h1 : Bs w w.heap.size A' n b) :
    Calls Try.prog 3 #[.slice A n c, .slice A' n c', .int .i64 k, .int .i64 N] w fun e w' => e = .returned (.bool true) ∧ Below w.heap.size w w' := by
  have hh := heads4_any
  have e1 : a.length = b.length := by rw [h0.1, h1.1]
  have hl := x2_len a b
  have hlt := x2_lt a b h0.2.1 h1.2.1
  have hg := fun k => x2_get a b k e1
  have hrl := rows_le n k N
  have hrf := rows_fit n k N
  have hra : ∀ i, i < rowsS n k N → ((chunkS a k N).getD i []).length = lenS n k.toNat := fun i hi => by rw [← h0.1] at hi ⊢; exact rows_len a k N i h0.2.1 hi
  have hrb : ∀ i, i < rowsS n k N → ((chunkS b k N).getD i []).length = lenS n k.toNat := fun i hi => by rw [← h1.1] at hi ⊢; exact rows_len b k N i h1.2.1 hi
  have hrs : ∀ i, i < rowsS n k N → ((chunkS (x2 a b) k N).getD i []).length = lenS n k.toNat := fun i hi => by rw [← h0.1, ← hl] at hi ⊢; exact rows_len _ k N i hlt hi
  have hadd : ∀ i p, i < rowsS n k N → p < lenS n k.toNat → ((chunkS (x2 a b) k N).getD i []).getD p 0 = ((chunkS a k N).getD i []).getD p 0 ^^^ ((chunkS b k N).getD i []).getD p 0 := fun i p hi hp => by
    rw [← h0.1] at hi hp
    exact rows_add a b k N i p e1 h0.2.1 h1.2.1 hi hp
  have hea := fun (w : World) (h : Bs w w.heap.size A n a) => Encode_any A n c _ k N a hc w h (Nat.le_refl _)
  have heb := fun (w : World) (h : Bs w w.heap.size A' n b) => Encode_any A' n c' _ k N b hc' w h (Nat.le_refl _)
  have hes := fun (A3 : Option Addr) (c3 : Nat) (h3 : n ≤ c3) (w : World) (h : Bs w w.heap.size A3 n (x2 a b)) => Encode_any A3 n c3 _ k N (x2 a b) h3 w h (Nat.le_refl _)
  rw [h0.1] at hl
  obtain ⟨L, hL⟩ : ∃ L, x2 a b = L := ⟨_, rfl⟩
  rw [hL] at hl hlt
  simp only [hL] at hg hrs hadd hes
  obtain ⟨X, hX⟩ : ∃ X, chunkS a k N = X := ⟨_, rfl⟩
  obtain ⟨Y, hY⟩ : ∃ Y, chunkS b k N = Y := ⟨_, rfl⟩
  obtain ⟨Z, hZ⟩ : ∃ Z, chunkS L k N = Z := ⟨_, rfl⟩
  obtain ⟨r, hr⟩ : ∃ r, rowsS n k N = r := ⟨_, rfl⟩
  obtain ⟨t, ht⟩ : ∃ t, codeS n k N = t := ⟨_, rfl⟩
  obtain ⟨l, hll⟩ : ∃ l, lenS n k.toNat = l := ⟨_, rfl⟩
  simp only [hX, hY, hZ, hr, ht, hll] at hea heb hes hra hrb hrs hadd hrl hrf
  have HRA := Lib.hid (And.intro hra (And.intro hrb (And.intro hrs hadd)))
  have HRF := Lib.hid hrf
  have HL := Lib.hid hl
  have HLT := Lib.hid hlt
  have HG : Hid (∀ k, k < n → L.getD k 0 = a.getD k 0 ^^^ b.getD k 0) := Lib.hid fun k _ => hg k
  have d0 : ((n : Int) != (n : Int)) = false := by simp
  clear e1 hl hlt hg hL hX hY hZ hr ht hll hra hrb hrs hadd hrf
  go_enter Try.func3, Try.ntmps3
  go_wp2_with fail
  go_loopw [9, 10] (fun s i wr => ∃ k : Nat, k ≤ n ∧ i = .int .i64 k ∧ wr.ownsRow w.heap.size 5 1 s k (by8 (L.take k)) ∧ Below w.heap.size w wr) (fun _ i _ => n - (intOf i).toNat)
  case atStart => exact ⟨0, by omega, rfl, ⟨rfl, Or.inl ⟨rfl, rfl⟩⟩, Below.refl _ _⟩
  case round =>
    obtain ⟨k, hk, rfl, hown, hbl⟩ := hrel
    have hz := hbl.size
    by_cases hlt : k < n
    · have g0 := h0.below hbl
      have g1 := h1.below hbl
      obtain ⟨p, o, rfl, hp, hc⟩ := g0.2.2 (by omega)
      obtain ⟨p', o', rfl, hp', hc'⟩ := g1.2.2 (by omega)
      have hck := hc k hlt
      have hck' := hc' k hlt
      have l0 := g0.lt k
      have l1 := g1.lt k
      have hgk := HG.out k hlt
      obtain ⟨x, hx⟩ : ∃ x, a.getD k 0 = x := ⟨_, rfl⟩
      obtain ⟨y, hy⟩ : ∃ y, b.getD k 0 = y := ⟨_, rfl⟩
      rw [hx] at hck l0 hgk
      rw [hy] at hck' l1 hgk
      have hx1 := u8_xor_nat x y l0 l1
      have hxy : x ^^^ y < 256 := Nat.xor_lt_two_pow (n := 8) (by omega) (by omega)
      obtain ⟨r, hr⟩ : ∃ r, x ^^^ y = r := ⟨_, rfl⟩
      rw [hr] at hx1 hxy hgk
      have htk : L.take (k + 1) = L.take k ++ [r] := by
        rw [List.take_succ_eq_append_getElem (by rw [HL.out]; exact hlt), ← hgk, List.getD_eq_getElem?_getD, List.getElem?_eq_getElem (by rw [HL.out]; exact hlt)]
        rfl
      have HT := Lib.hid htk
      have HO := Lib.hid hown
      have k0 : (0 : Int) ≤ (k : Int) := by omega
      have k1 : (k : Int) < (n : Int) := by omega
      have hzp : p < wr.heap.size := by omega
      have hzp' : p' < wr.heap.size := by omega
      have hob : ∀ q, q < w.heap.size → u9.ownBlock ≠ some q := fun q hq e => by
        have := (HO.out.lt q e).1
        omega
      have ob0 := hob p hp
      have ob1 := hob p' hp'
      obtain ⟨i0, hi0, hz0, hz1, hz2⟩ := info_parts Oc.b_info
      clear g0 g1 hc hc' hx hy hr hgk htk hown hob hea heb hes
      go_wp2_with fail
      go_region_held3 (fun w' => w'.cell? ⟨p, o + k, none⟩ = some (.int .u8 (x : Int)) ∧ w'.cell? ⟨p', o' + k, none⟩ = some (.int .u8 (y : Int)))
        (first
          | go_keep
          | (go_split_ands
             refine ⟨?_, ?_⟩
             · (rw [hgrow.cell_far _ (by simp; omega) (Ne.symm ob0)]; assumption)
             · (rw [hgrow.cell_far _ (by simp; omega) (Ne.symm ob1)]; assumption)))
        ((refine step_append_lies _ (by rfl) _ _ _ (by rfl) w.heap.size 5 i0 _ 1 1 Try.underlying22 hi0 hz0 hz1 hz2 rfl (by omega) u9 k (by8 (L.take k)) (by rfl) ((HO.out.alloc _).drew)
            ⟨wr.heap.size, 0, none⟩ 1 1 [.int .u8 (r : Int)] (by rfl) (by rfl) (World.news_of_block (cs := #[.int .u8 (r : Int)]) (t := 5) (fr := (0, 0)) (heap_alloc_new wr _)) (by simp [Value.oneCell'])
            (by omega) (by simp only [maxLen]; omega) (by omega) (by simp; omega) (wr.heap.size + 1) (by simp) ?_; intro gg cap w1 hown1 hgrow hat hlt))
      have hown2 : w1.ownsRow w.heap.size 5 1 (.slice (some ⟨gg, 0, none⟩) (k + 1) cap) (k + 1) (by8 (L.take (k + 1))) := by
        rw [HT.out, show by8 (L.take k ++ [r]) = by8 (L.take k) ++ by8 [r] by simp [by8]]
        exact hown1
      have hbl2 : Below w.heap.size w w1 := ((hbl.alloc hz _).drew).grown hgrow (by simp; omega) (fun g e => (HO.out.lt g e).1)
      have K := Lib.hid (And.intro hown2 hbl2)
      clear hown1 hown2 hbl2 hgrow hat hlt
      go_wp2_with fail
      go_roundw
      case rel => exact ⟨k + 1, by omega, by go_num, K.out.1, K.out.2⟩
      case measure => simp [intOf]; omega
    · obtain rfl : n = k := by omega
      have hall : L.take n = L := List.take_of_length_le (by rw [HL.out]; exact Nat.le_refl _)
      rw [hall] at hown
      obtain ⟨A3, c3, rfl, hb3, hc3⟩ := Oc.of_own_cap hown HLT.out
      have K3 := Lib.hid (And.intro hb3 (And.intro (h0.on hbl) (h1.on hbl)))
      clear hall hown hb3
      go_wp2_with fail
      refine (hea _ K3.out.2.1).mono ?_
      rintro e w1 ⟨A4, c4, rfl, hc4, hx4, hb1⟩
      have K4 := Lib.hid (And.intro hx4 (And.intro (K3.out.1.on hb1) (And.intro (K3.out.2.2.on hb1) (below2 hbl hb1))))
      clear hx4 hb1 hea
      go_wp2_with fail
      refine (heb _ K4.out.2.2.1).mono ?_
      rintro e w2 ⟨A5, c5, rfl, hc5, hx5, hb2⟩
      have K5 := Lib.hid (And.intro (K4.out.1.on hb2) (And.intro hx5 (And.intro (K4.out.2.1.on hb2) (below2 K4.out.2.2.2 hb2))))
      clear hx5 hb2 heb
      go_wp2_with fail
      refine (hes A3 c3 hc3 _ K5.out.2.2.1).mono ?_
      rintro e w3 ⟨A6, c6, rfl, hc6, hx6, hb3⟩
      have K6 := Lib.hid (And.intro (K5.out.1.on hb3) (And.intro (K5.out.2.1.on hb3) (And.intro hx6 (below2 K5.out.2.2.2 hb3))))
      have d1 : (t != t) = false := by simp
      have d2 : ((r : Int) != (r : Int)) = false := by simp
      clear hx6 hb3 hes hbl
      go_wp2_with fail
      go_loopw [17] (fun x wr => ∃ i : Nat, i ≤ r ∧ x = .int .i64 i ∧ Below w3.heap.size w3 wr) (fun x _ => r - (intOf x).toNat)
      case atStart => exact ⟨0, by omega, rfl, Below.refl _ _⟩
      case round =>
        obtain ⟨i, hi, rfl, hbl⟩ := hrel
        by_cases hlt2 : i < r
        · obtain ⟨b4, o4, B4, q4, rfl, hB4, hv4, hs4, hr4, hk4⟩ := (K6.out.1.below hbl).row i hlt2
          obtain ⟨b5, o5, B5, q5, rfl, hB5, hv5, hs5, hr5, hk5⟩ := (K6.out.2.1.below hbl).row i hlt2
          obtain ⟨b6, o6, B6, q6, rfl, hB6, hv6, hs6, hr6, hk6⟩ := (K6.out.2.2.1.below hbl).row i hlt2
          rw [HRA.out.1 i hlt2] at hv4 hs4
          rw [HRA.out.2.1 i hlt2] at hv5 hs5
          rw [HRA.out.2.2.1 i hlt2] at hv6 hs6
          have hlb := HRF.out i hlt2
          have hadd := fun p hp => HRA.out.2.2.2 i p hlt2 hp
          obtain ⟨x, hx⟩ : ∃ x, X.getD i [] = x := ⟨_, rfl⟩
          obtain ⟨y, hy⟩ : ∃ y, Y.getD i [] = y := ⟨_, rfl⟩
          obtain ⟨z, hz'⟩ : ∃ z, Z.getD i [] = z := ⟨_, rfl⟩
          rw [hx] at hs4
          rw [hy] at hs5
          rw [hz'] at hs6
          simp only [hx, hy, hz'] at hadd
          have KS := Lib.hid (And.intro hs4 (And.intro hs5 (And.intro hs6 hadd)))
          have i0 : (0 : Int) ≤ (i : Int) := by omega
          have i1 : (i : Int) < (r : Int) := by omega
          have d3 : ((l : Int) != (l : Int)) = false := by simp
          clear hx hy hz' hs4 hs5 hs6 hadd hr4 hr5 hr6 hk4 hk5 hk6
          go_wp2_with fail
          go_quiet (fail)
          go_wp2_with fail
          go_loopw [18] (fun x wz => ∃ p : Nat, p ≤ l ∧ x = .int .i64 p ∧ Below w3.heap.size w3 wz ∧ Below wr.heap.size wr wz) (fun x _ => l - (intOf x).toNat)
          case atStart => exact ⟨0, by omega, rfl, hbl.trans ⟨rfl, rfl, rfl, Nat.le_refl _, fun _ _ => rfl⟩, ⟨rfl, rfl, rfl, Nat.le_refl _, fun _ _ => rfl⟩⟩
          case round =>
            obtain ⟨p, hp, rfl, hbz, hbz2⟩ := hrel
            have hsz := hbl.size
            have hu4 := (hbz2.cell (p := ⟨b4, o4 + i, none⟩) (by show b4 < _; omega)).trans hv4
            have hu5 := (hbz2.cell (p := ⟨b5, o5 + i, none⟩) (by show b5 < _; omega)).trans hv5
            have hu6 := (hbz2.cell (p := ⟨b6, o6 + i, none⟩) (by show b6 < _; omega)).trans hv6
            by_cases hlt3 : p < l
            · have hs4 := KS.out.1.below (hbz2.mono hsz)
              have hs5 := KS.out.2.1.below (hbz2.mono hsz)
              have hs6 := KS.out.2.2.1.below (hbz2.mono hsz)
              have hadd := KS.out.2.2.2 p hlt3
              obtain ⟨g4, f4, rfl, -, hc4'⟩ := hs4.2.2 (by omega)
              obtain ⟨g5, f5, rfl, -, hc5'⟩ := hs5.2.2 (by omega)
              obtain ⟨g6, f6, rfl, -, hc6'⟩ := hs6.2.2 (by omega)
              have hm4 := hc4' p hlt3
              have hm5 := hc5' p hlt3
              have hm6 := hc6' p hlt3
              rw [hadd] at hm6
              have l4 := hs4.lt p
              have l5 := hs5.lt p
              obtain ⟨x', hx'⟩ : ∃ x', x.getD p 0 = x' := ⟨_, rfl⟩
              obtain ⟨y', hy'⟩ : ∃ y', y.getD p 0 = y' := ⟨_, rfl⟩
              rw [hx'] at hm4 hm6 l4
              rw [hy'] at hm5 hm6 l5
              have hxor := u8_xor_nat x' y' l4 l5
              obtain ⟨z', hz'⟩ : ∃ z', x' ^^^ y' = z' := ⟨_, rfl⟩
              rw [hz'] at hxor hm6
              have d4 : ((z' : Int) != (z' : Int)) = false := by simp
              have p0 : (0 : Int) ≤ (p : Int) := by omega
              have p1 : (p : Int) < (l : Int) := by omega
              have HBZ := Lib.hid fun q => And.intro (hbz.trans (below_drewN _ _ q)) (hbz2.trans (below_drewN _ _ q))
              clear hs4 hs5 hs6 hadd hc4' hc5' hc6' hx' hy' hz' hbz hbz2
              go_wp2_with fail
              go_quiet (fail)
              go_wp2_with fail
              go_roundw
              case rel => exact ⟨p + 1, by omega, by go_num, HBZ.out nq⟩
              case measure => simp [intOf]; omega
            · obtain rfl : l = p := by omega
              go_wp2_with fail
              go_roundw
              case rel => exact ⟨i + 1, by omega, by go_num, hbz⟩
              case measure => simp [intOf]; omega
        · obtain rfl : r = i := by omega
          go_wp2_with fail
          refine (hh _).mono ?_
          rintro e w4 ⟨rfl, hb4⟩
          go_wp2_with fail
          go_ret
          exact ⟨rfl, below2 (below2 K6.out.2.2.2 hbl) hb4⟩
theorem adds_law (A A' : Option Addr) (n n' c c' : Nat) (k N : Int) (a b : List Nat) (hn : n ≤ 140737488351232) (hc : n ≤ c) (hc' : n' ≤ c') (w : World) (h0 : Bs w w.heap.size A n a) (h1 : Bs w w.heap.size A' n' b) :
    Calls Try.prog 3 #[.slice A n c, .slice A' n' c', .int .i64 k, .int .i64 N] w fun e w' => e = .returned (.bool true) ∧ Below w.heap.size w w' := by
  by_cases e : n = n'
  · subst e
    exact adds_some A A' n c c' k N a b hn hc hc' w h0 h1
  · exact adds_none A A' n n' c c' k N e w

set_option maxRecDepth 100000 in
theorem stripeAdds_lifted (os : Os) (started : os.Started) (H : Type) (enc : TypeId × Value → H) :
    ReturnsInHanded {} Try.checked os 3 .any (Rows.stripeAddsSpec.pre6 enc Try.prog Try.f3 Rows.stripeAddsRow.domain false) (Rows.stripeAddsSpec.post enc Try.prog Try.f3 false true false false) := by
  refine returnsInHanded_of_change_sized (C := Try.checked) Oc.ownO started (by kernel_rfl) Try.func3
    (ChangeSpec.witness6 (enc := enc) (C := Try.checked) false ⟨#[], #[.slice none 0 0, .slice none 0 0, .int .i64 0, .int .i64 0], []⟩ 8 (by kernel_rfl) (by kernel_rfl) (by kernel_rfl) (by kernel_rfl)) ?_
  intro W base args ds gs before hval0 hW _ hsz0 _
  have hsz : (DataW.weightsEach Try.prog (Try.f3.params.toList ++ Rows.stripeAddsSpec.plain.varTypes Try.prog) (ds ++ gs)).all (· ≤ reachBytes) = true := hsz0
  clear hsz0
  have hval : ∀ (j : Nat) t v, Try.f3.params[j]? = some t → args[j]? = some v → Value.okWide Try.prog W .any base t v := hval0
  have hW' := hW
  obtain ⟨p, q, hA0, hV, rfl, hfz, hnd⟩ := hW
  have hA : DataW.TrodAll enc Try.prog W 0 (fun _ => true) true Try.f3.params.toList args.toList ds p := hA0
  rw [Try.params3] at hA hval hsz
  obtain ⟨v0, vs0, d0, ds0, p0, q0, hargs, rfl, rfl, h0, t0⟩ := trodAll_cons hA
  obtain ⟨v1, vs1, d1, ds1, p1, q1, rfl, rfl, rfl, h1, t1⟩ := trodAll_cons t0
  obtain ⟨v2, vs2, d2, ds2, p2, q2, rfl, rfl, rfl, h2, t2⟩ := trodAll_cons t1
  obtain ⟨v3, vs3, d3, ds3, p3, q3, rfl, rfl, rfl, h3, t3⟩ := trodAll_cons t2
  obtain ⟨rfl, rfl, rfl⟩ := trodAll_nil t3
  obtain rfl : args = #[v0, v1, v2, v3] := by cases args; simp_all
  obtain ⟨rfl, rfl⟩ := trodVars_none hV
  obtain ⟨A0, len0, cap0, rfl⟩ := okWide_slice Try.underlying22 (hval 0 22 v0 rfl rfl)
  have hlt0 : ∀ x ∈ p0, x.block < W.heap.size := fun x hx => by simpa using hW'.lt x (by simp [hx])
  obtain ⟨xs0, B0, k0⟩ := open_bytes Try.underlying22 Try.underlying5 Oc.b_cells Oc.b_bytes h0 hlt0 (j := 0) hsz rfl rfl
  obtain ⟨r0, z0⟩ := Oc.open_room Try.underlying22 Try.underlying5 Oc.b_cells h0
  obtain ⟨A1, len1, cap1, rfl⟩ := okWide_slice Try.underlying22 (hval 1 22 v1 rfl rfl)
  have hlt1 : ∀ x ∈ p1, x.block < W.heap.size := fun x hx => by simpa using hW'.lt x (by simp [hx])
  obtain ⟨xs1, B1, k1⟩ := open_bytes Try.underlying22 Try.underlying5 Oc.b_cells Oc.b_bytes h1 hlt1 (j := 1) hsz rfl rfl
  obtain ⟨r1, z1⟩ := Oc.open_room Try.underlying22 Try.underlying5 Oc.b_cells h1
  obtain ⟨a2, rfl, rfl, rfl, w2⟩ := open_int Try.underlying3 (hval 2 3 v2 rfl rfl) h2
  obtain ⟨l2, m2⟩ := i64_bd w2
  obtain ⟨a3, rfl, rfl, rfl, w3⟩ := open_int Try.underlying3 (hval 3 3 v3 rfl rfl) h3
  obtain ⟨l3, m3⟩ := i64_bd w3
  refine (adds_law A0 A1 len0 len1 cap0 cap1 a2 a3 xs0 xs1 k0.1 r0 r1 W B0 B1).mono fun e W' ⟨he, hg⟩ => ?_
  subst he
  exact ⟨_, rfl, law_post Oc.laidO (by kernel_rfl) rfl (by kernel_rfl) Try.underlying4 hW' rfl rfl rfl hg⟩

theorem stripeAdds_over : Rows.stripeAddsRow.holds Try.pinned (OpenSpec.ofChange Rows.stripeAddsSpec) :=
  OpenClaim.holds_of_wide 3 Try.f3 rfl rfl rfl rfl rfl rfl rfl ⟨rfl, rfl, rfl, rfl, rfl⟩ rfl rfl rfl rfl rfl (by kernel_rfl) Try.func3 (by kernel_rfl)
    (of_decide_eq_true (by kernel_rfl)) (by unfold Func.isWrapper; first | (rw [if_pos (by decide +kernel)]; kernel_rfl) | (rw [if_neg (by decide +kernel)]; exact ⟨rfl, rfl⟩))
    (fun os started H enc _ => stripeAdds_lifted os started H enc)

theorem stripeAdds_proved : Rows.StripeAddsSaid := stripeAdds_over
end Go.Proofs.Ytmaekebebllncaa
