/-
  THE WALKS of stripe's Decode and Rebuild. Conditions: what is read as pieces; ints.
-/
import Derived.Test.YtmaekebebllncaaSF
import Derived.Test.YtmaekebebllncaaOG
namespace Go.Proofs.Ytmaekebebllncaa
open Go.ChangeShapes Go.WideShapes Go.ChangeAt Go.RowKit Gf Go.Sort Go.Shelf
set_option linter.unusedVariables false

/-- ints as a machine has them -/
def I64s (d : List Pc) : Prop := ∀ x ∈ d, -9223372036854775808 ≤ x.1 ∧ x.1 ≤ 9223372036854775807
theorem choose_any (A : Option Addr) (n c s k N B : Nat) (d : List Pc) (hn : n * 32 ≤ 140737488351232) (hs : s ≤ 65536) (hk1 : 1 ≤ k) (hkN : k ≤ N) (hN : N ≤ 255) (w : World) (h : Pm w B A n d) (hB : B ≤ w.heap.size) (hi : I64s d) :
    Calls Try.prog 35 #[.slice A n c, .int .i64 (s : Int), .int .i64 (k : Int), .int .i64 (N : Int)] w (ChooseSaid N k (lenS s k) n d w) := by
  by_cases hn0 : 1 ≤ n
  · exact choose_some A n c s k N B d hn0 hn hs hk1 hkN hN w h hB hi
  · obtain rfl : n = 0 := by omega
    refine (choose_none A c s k N hs hk1 hkN hN w).mono ?_
    rintro e w' ⟨rfl, hb⟩
    exact ⟨d, List.Perm.refl _, fun i j _ hj => by have := h.1; omega, hb, .inr (.inl ⟨fun j hj => by omega, by omega, rfl⟩)⟩

theorem Bs.first {w : World} {B n m : Nat} {A : Option Addr} {l : List Nat} (h : Bs w B A n l) (hm : m ≤ n) : Bs w B A m (l.take m) := by
  have hlen := h.1
  refine ⟨by rw [List.length_take]; omega, fun x hx => h.2.1 x (List.mem_of_mem_take hx), fun hn => ?_⟩
  obtain ⟨b, off, e, hb, hk⟩ := h.2.2 (by omega)
  refine ⟨b, off, e, hb, fun k hk' => ?_⟩
  rw [hk k (by omega), List.getD_eq_getElem?_getD, List.getD_eq_getElem?_getD, List.getElem?_take, if_pos hk']

/-- the numbers of the pieces -/
def rhoP (d : List Pc) (i : Nat) : Nat := (d.getD i default).1.toNat
/-- the data chunks of which these pieces are -/
def datS (k N l : Nat) (d : List Pc) : List (List Nat) := decM k N l (rhoP d) (datP (d.take k))
/-- what an answer in bytes is -/
def OutB (L : List Nat) (s : Int) (w : World) (e : Ending) (w' : World) : Prop := ∃ A c, e = .returned (.tuple #[.slice A L.length c, .int .i64 s]) ∧ Bs w' w'.heap.size A L.length L ∧ L.length ≤ c ∧ Below w.heap.size w w'
theorem OutB.empty (w w' : World) (s : Int) (h : Below w.heap.size w w') : OutB [] s w (.returned (.tuple #[.slice none 0 0, .int .i64 s])) w' := ⟨none, 0, rfl, Bs.nil _ _ _, Nat.le_refl _, h⟩
/-- what comes of pieces: f of them where they fit -/
def PiecesSaid (N k l n : Nat) (d : List Pc) (f : List Pc → List Nat) (w : World) (e : Ending) (w' : World) : Prop := ∃ d' : List Pc, d'.Perm d ∧ Rising d' ∧
  (((¬ ∀ j, j < n → OKat N l d' j) ∧ OutB [] 31 w e w') ∨ ((∀ j, j < n → OKat N l d' j) ∧ n < k ∧ OutB [] 30 w e w') ∨ ((∀ j, j < n → OKat N l d' j) ∧ k ≤ n ∧ OutB (f d') 0 w e w'))

section
variable {N k l n : Nat} {d : List Pc}
theorem take_getD (d : List Pc) (k i : Nat) (hi : i < k) : (d.take k).getD i default = d.getD i default := by
  rw [List.getD_eq_getElem?_getD, List.getElem?_take, if_pos hi, ← List.getD_eq_getElem?_getD]
theorem rho_eq (h : ∀ j, j < n → OKat N l d j) (i : Nat) (hi : i < n) : (d.getD i default).1 = (rhoP d i : Int) := by
  have := (h i hi).1.1
  unfold rhoP
  omega
theorem rho_lt (h : ∀ j, j < n → OKat N l d j) (i : Nat) (hi : i < n) : rhoP d i < N := by
  have := (h i hi).1.2
  rw [rho_eq h i hi] at this
  omega
theorem rho_mono (h : ∀ j, j < n → OKat N l d j) (hr : Rising d) (hd : d.length = n) : ∀ b, b < n → ∀ a, a < b → rhoP d a < rhoP d b := fun b => by
  induction b with
  | zero => intro _ a ha; omega
  | succ b ih =>
    intro hb a ha
    have h1 := hr b (b + 1) (by omega) (by omega)
    have h2 := (h (b + 1) hb).2.2 (by omega)
    rw [Nat.add_sub_cancel] at h2
    rw [rho_eq h b (by omega), rho_eq h (b + 1) hb] at h1
    rw [rho_eq h b (by omega), rho_eq h (b + 1) hb] at h2
    by_cases e : a = b
    · subst e
      omega
    · have := ih (by omega) a (by omega)
      omega
end

set_option maxRecDepth 100000 in
set_option maxHeartbeats 1000000 in
theorem dataOfS (A : Option Addr) (k c N l B : Nat) (d : List Pc) (n : Nat) (hk1 : 1 ≤ k) (hkn : k ≤ n) (hkN : k ≤ N) (hN : N ≤ 255) (hl : l ≤ 65536) (hok : ∀ j, j < n → OKat N l d j) (hr : Rising d) (hd : d.length = n) (w : World) (h : Pm w B A k (d.take k)) (hB : B ≤ w.heap.size) :
    Calls Try.prog 37 #[.slice A k c, .int .i64 (N : Int)] w fun e w' => ∃ A' c', e = .returned (.slice A' k c') ∧ k ≤ c' ∧ Ms w' w'.heap.size A' k (datS k N l d) ∧ Below w.heap.size w w' :=
  dataOf_any A k c N l B (d.take k) (rhoP d) hk1 hkN hN hl (fun i hi => by rw [take_getD _ _ _ hi]; exact rho_eq hok i (by omega)) (fun i hi => rho_lt hok i (by omega))
    (fun a b ha hb hab => rho_mono hok hr hd b (by omega) a hab) (fun i hi => by rw [take_getD _ _ _ hi]; exact (hok i (by omega)).2.1) w h hB
theorem shape_datS (k N l n : Nat) (d : List Pc) (hkn : k ≤ n) (hok : ∀ j, j < n → OKat N l d j) (hd : d.length = n) (hb : ∀ x ∈ d, ∀ y ∈ x.2.2, y < 256) : Shape (datS k N l d) k l := by
  have hl : (d.take k).length = k := by rw [List.length_take]; omega
  refine shape_dec _ (fun i hi => rho_lt hok i (by omega)) (Shape.mk' (by rw [datP_len, hl]) (fun i hi => ?_) (fun i hi => ?_))
  · rw [datP_row _ _ (by omega), take_getD _ _ _ hi]
    exact (hok i (by omega)).2.1
  · rw [datP_row _ _ (by omega), take_getD _ _ _ hi]
    exact hb _ (getD_memP d i (by omega))

/-- the object of these pieces -/
def decS (k N s : Nat) (d : List Pc) : List Nat := (datS k N (lenS s k) d).flatten.take s
set_option maxHeartbeats 400000 in
theorem Decode_arg (A : Option Addr) (n c : Nat) (s k N : Int) (h : ¬ FitsS s k N) (w : World) :
    Calls Try.prog 20 #[.slice A n c, .int .i64 s, .int .i64 k, .int .i64 N] w (OutB [] 2 w) := by
  have hc := choose_arg A n c s k N h w
  clear h
  go_enter Try.func20, Try.ntmps20
  go_wp2_with fail
  refine hc.mono ?_
  rintro e w' ⟨rfl, hb⟩
  go_wp2_with fail
  go_ret2
  exact OutB.empty _ _ _ hb

set_option maxRecDepth 100000 in
set_option maxHeartbeats 2000000 in
theorem Decode_any (A : Option Addr) (n c s k N B : Nat) (d : List Pc) (hn : n * 32 ≤ 140737488351232) (hs : s ≤ 65536) (hk1 : 1 ≤ k) (hkN : k ≤ N) (hN : N ≤ 255) (w : World) (h : Pm w B A n d) (hB : B ≤ w.heap.size) (hi : I64s d) :
    Calls Try.prog 20 #[.slice A n c, .int .i64 (s : Int), .int .i64 (k : Int), .int .i64 (N : Int)] w (PiecesSaid N k (lenS s k) n d (decS k N s) w) := by
  have hc := choose_any A n c s k N B d hn hs hk1 hkN hN w h hB hi
  have hbd : ∀ x ∈ d, ∀ y ∈ x.2.2, y < 256 := fun x hx => (h.2.1 x hx).1.2.1
  have hdl := h.1
  have hll := lenS_le s k hk1
  have hlm := lenS_mul s k hk1
  have HB := Lib.hid hbd
  clear h hi hbd
  go_enter Try.func20, Try.ntmps20
  go_wp2_with fail
  refine hc.mono ?_
  rintro e w1 ⟨d', hp, hr, hb1, hcase⟩
  have hdn : d'.length = n := by rw [hp.length_eq, hdl]
  rcases hcase with ⟨hno, rfl⟩ | ⟨hok, hkn, rfl⟩ | ⟨hok, hkn, g, c1, rfl, hc1, hpm⟩
  · have K := Lib.hid hno
    clear hno hc
    go_wp2_with fail
    go_ret2
    exact ⟨d', hp, hr, .inl ⟨K.out, OutB.empty _ _ _ hb1⟩⟩
  · have K := Lib.hid hok
    clear hok hc
    go_wp2_with fail
    go_ret2
    exact ⟨d', hp, hr, .inr (.inl ⟨K.out, hkn, OutB.empty _ _ _ hb1⟩)⟩
  · have hdo := dataOfS (some ⟨g, 0, none⟩) k c1 N (lenS s k) w1.heap.size d' n hk1 hkn hkN hN (by omega) hok hr hdn w1 hpm (Nat.le_refl _)
    have hsh := shape_datS k N (lenS s k) n d' hkn hok hdn (fun x hx => HB.out x (hp.mem_iff.1 hx))
    have hfl := (flat_get _ k (lenS s k) hsh.1 (fun i hi => hsh.2.1 i hi)).1
    have hflt : ∀ x ∈ (datS k N (lenS s k) d').flatten, x < 256 := fun x hx => by
      obtain ⟨r, hr, hx⟩ := List.mem_flatten.1 hx
      obtain ⟨i, hi, rfl⟩ := List.getElem_of_mem hr
      have := hsh.row i (by rw [← hsh.1]; exact hi)
      rw [List.getD_eq_getElem?_getD, List.getElem?_eq_getElem hi] at this
      exact this x hx
    have hkl : k * lenS s k ≤ 255 * 65536 := Nat.mul_le_mul (by omega) (by omega)
    have hsl : s ≤ (datS k N (lenS s k) d').flatten.length := by rw [hfl, Nat.mul_comm]; exact hlm
    have hdec : decS k N s d' = (datS k N (lenS s k) d').flatten.take s := rfl
    obtain ⟨M, hM⟩ : ∃ M, datS k N (lenS s k) d' = M := ⟨_, rfl⟩
    rw [hM] at hdo hfl hsl hflt hdec
    have HOK := Lib.hid hok
    have HFL := Lib.hid hflt
    have HD := Lib.hid hdec
    clear hok hc hpm hsh hflt hM hdec
    go_wp2_with fail
    refine hdo.mono ?_
    rintro e w2 ⟨A2, c2, rfl, hc2, hms, hb2⟩
    have hcc := Oc.concat_any A2 k c2 w2.heap.size M (by omega) (by omega) w2 hms (Nat.le_refl _)
    clear hms hdo
    go_wp2_with fail
    refine hcc.mono ?_
    rintro e w3 ⟨v3, rfl, hown, hb3⟩
    obtain ⟨A3, c3, rfl, hbs, hc3⟩ := Oc.of_own_cap hown HFL.out
    have hbl : Below w.heap.size w w3 := below3 hb1 hb2 hb3
    have htk := hbs.first hsl
    have hsA : ∀ a, A3 = some a → a.spot = none := fun a ha => by
      rcases hown.2 with ⟨h1, h0⟩ | ⟨g', cap, cur, h1, _⟩
      · injection h1 with h1
        rw [h1] at ha
        cases ha
      · injection h1 with h1
        rw [h1] at ha
        injection ha with ha
        rw [← ha]
    have hslt := slice_to (P := Try.prog) (T := 22) (A := A3) (n := M.flatten.length) (c := c3) (m := s) Try.underlying22 1 Try.sizeOf5 hsA (by omega)
    have HT := Lib.hid (And.intro htk hbl)
    obtain ⟨F, hF⟩ : ∃ F, M.flatten.length = F := ⟨_, rfl⟩
    rw [hF] at hslt hc3 hsl ⊢
    clear hown hbs hcc htk hbl hsA hF hfl
    go_wp2_with fail
    go_ret2
    have hlen : (M.flatten.take s).length = s := HT.out.1.1
    refine ⟨d', hp, hr, .inr (.inr ⟨HOK.out, hkn, ?_⟩)⟩
    rw [HD.out]
    exact ⟨A3, c3, by rw [hlen]; rfl, by rw [hlen]; exact HT.out.1, by omega, HT.out.2⟩

/-- chunk number x of the object of these pieces -/
def rebS (k N s x : Nat) (d : List Pc) : List Nat := (encM (datS k N (lenS s k) d) (lenS s k) k N).getD x []
set_option maxHeartbeats 400000 in
theorem Rebuild_index (A : Option Addr) (n c : Nat) (s k N x : Int) (h : ¬ (0 ≤ x ∧ x ≤ N - 1)) (hN : -9223372036854775808 < N ∧ N ≤ 9223372036854775807) (w : World) :
    Calls Try.prog 22 #[.slice A n c, .int .i64 s, .int .i64 k, .int .i64 N, .int .i64 x] w (OutB [] 2 w) := by
  have hc := fun w => wit_not x 0 (N - 1) h w
  obtain ⟨h1, h2⟩ := hN
  clear h
  go_enter Try.func22, Try.ntmps22
  go_wp2_with fail
  refine (hc _).mono ?_
  rintro e w' ⟨rfl, rfl⟩
  go_wp2_with fail
  go_ret2
  exact OutB.empty _ _ _ (Below.refl _ _)
set_option maxHeartbeats 400000 in
theorem Rebuild_arg (A : Option Addr) (n c : Nat) (s k N x : Int) (h : ¬ FitsS s k N) (hx : 0 ≤ x ∧ x ≤ N - 1) (hN : N ≤ 9223372036854775807) (w : World) :
    Calls Try.prog 22 #[.slice A n c, .int .i64 s, .int .i64 k, .int .i64 N, .int .i64 x] w (OutB [] 2 w) := by
  have hc := fun w => wit_yes x 0 (N - 1) hx.1 hx.2 w
  have hch := choose_arg A n c s k N h w
  obtain ⟨h1, h2⟩ := hx
  clear h
  go_enter Try.func22, Try.ntmps22
  go_wp2_with fail
  refine (hc _).mono ?_
  rintro e w' ⟨rfl, rfl⟩
  go_wp2_with fail
  refine hch.mono ?_
  rintro e w' ⟨rfl, hb⟩
  go_wp2_with fail
  go_ret2
  exact OutB.empty _ _ _ hb

set_option maxRecDepth 100000 in
set_option maxHeartbeats 4000000 in
theorem Rebuild_any (A : Option Addr) (n c s k N x B : Nat) (d : List Pc) (hn : n * 32 ≤ 140737488351232) (hs : s ≤ 65536) (hk1 : 1 ≤ k) (hkN : k ≤ N) (hN : N ≤ 255) (hx : x < N) (w : World) (h : Pm w B A n d) (hB : B ≤ w.heap.size) (hi : I64s d) :
    Calls Try.prog 22 #[.slice A n c, .int .i64 (s : Int), .int .i64 (k : Int), .int .i64 (N : Int), .int .i64 (x : Int)] w (PiecesSaid N k (lenS s k) n d (rebS k N s x) w) := by
  have hc := choose_any A n c s k N B d hn hs hk1 hkN hN w h hB hi
  have hw := fun w => wit_yes (x : Int) 0 ((N : Int) - 1) (by omega) (by omega) w
  have hbd : ∀ x ∈ d, ∀ y ∈ x.2.2, y < 256 := fun x hx => (h.2.1 x hx).1.2.1
  have hdl := h.1
  have hll := lenS_le s k hk1
  have HB := Lib.hid hbd
  clear h hi hbd
  go_enter Try.func22, Try.ntmps22
  go_wp2_with fail
  refine (hw _).mono ?_
  rintro e w' ⟨rfl, rfl⟩
  go_wp2_with fail
  refine hc.mono ?_
  rintro e w1 ⟨d', hp, hr, hb1, hcase⟩
  have hdn : d'.length = n := by rw [hp.length_eq, hdl]
  rcases hcase with ⟨hno, rfl⟩ | ⟨hok, hkn, rfl⟩ | ⟨hok, hkn, g, c1, rfl, hc1, hpm⟩
  · have K := Lib.hid hno
    clear hno hc
    go_wp2_with fail
    go_ret2
    exact ⟨d', hp, hr, .inl ⟨K.out, OutB.empty _ _ _ hb1⟩⟩
  · have K := Lib.hid hok
    clear hok hc
    go_wp2_with fail
    go_ret2
    exact ⟨d', hp, hr, .inr (.inl ⟨K.out, hkn, OutB.empty _ _ _ hb1⟩)⟩
  · have hsh := shape_datS k N (lenS s k) n d' hkn hok hdn (fun x hx => HB.out x (hp.mem_iff.1 hx))
    have hEs := shape_enc (n := N) hsh
    have hEr := enc_row (n := N) hsh x hx
    have hreb : rebS k N s x d' = (encM (datS k N (lenS s k) d') (lenS s k) k N).getD x [] := rfl
    have hGs := shape_gen k N
    have hGr := hGs.2.1 x hx
    have hdo : ∀ wx, Below w1.heap.size w1 wx → Calls Try.prog 37 #[.slice (some ⟨g, 0, none⟩) k c1, .int .i64 (N : Int)] wx fun e w' => ∃ A' c', e = .returned (.slice A' k c') ∧ k ≤ c' ∧ Ms w' w'.heap.size A' k (datS k N (lenS s k) d') ∧ Below wx.heap.size wx w' :=
      fun wx hbx => dataOfS (some ⟨g, 0, none⟩) k c1 N (lenS s k) wx.heap.size d' n hk1 hkn hkN hN (by omega) hok hr hdn wx (hpm.on hbx) (Nat.le_refl _)
    have hgen : ∀ wx, Calls Try.prog 28 #[.int .i64 (k : Int), .int .i64 (N : Int)] wx fun e w' => ∃ A' c' b off A'' c'', e = .returned (.slice A' N c') ∧ Below wx.heap.size wx w' ∧ A' = some ⟨b, off, none⟩ ∧ b < w'.heap.size ∧ w'.cell? ⟨b, off + x, none⟩ = some (.slice A'' k c'') ∧ Bs w' w'.heap.size A'' k ((genM k N).getD x []) := fun wx => by
      refine (generatorS_yes k N hk1 hkN hN wx).mono ?_
      rintro e w' ⟨v, rfl, ⟨A', c', rfl, hms⟩, hb⟩
      rw [hGs.1] at hms ⊢
      obtain ⟨b, off, A'', c'', e1, e2, e3, e4, -, -⟩ := hms.row x hx
      rw [hGr] at e3 e4
      exact ⟨A', c', b, off, A'', c'', rfl, hb, e1, e2, e3, e4⟩
    have hcb : ∀ wx Af cf Am cm, Bs wx wx.heap.size Af k ((genM k N).getD x []) → Ms wx wx.heap.size Am k (datS k N (lenS s k) d') → Calls Try.prog 29 #[.slice Af k cf, .slice Am k cm] wx fun e w' => ∃ g, e = .returned (.slice (some ⟨g, 0, none⟩) (lenS s k) (lenS s k)) ∧ Bs w' w'.heap.size (some ⟨g, 0, none⟩) (lenS s k) ((encM (datS k N (lenS s k) d') (lenS s k) k N).getD x []) ∧ Below wx.heap.size wx w' :=
      fun wx Af cf Am cm h1 h2 => by
        rw [hEr]
        refine (combineS_any Af Am k k cf cm wx.heap.size (lenS s k) _ _ hk1 (by omega) (Nat.le_refl _) (by omega) (by omega) (fun i hi => hsh.2.1 i hi) wx h1 h2 (Nat.le_refl _)).mono ?_
        rintro e w' ⟨g, -, h3, h4, h5⟩
        exact ⟨g, h3, h4, h5⟩
    have hEl := hEs.2.1 x hx
    obtain ⟨R, hR⟩ : ∃ R, (encM (datS k N (lenS s k) d') (lenS s k) k N).getD x [] = R := ⟨_, rfl⟩
    rw [hR] at hreb hEl
    simp only [hR] at hcb
    obtain ⟨M, hM⟩ : ∃ M, datS k N (lenS s k) d' = M := ⟨_, rfl⟩
    simp only [hM] at hdo hcb
    obtain ⟨G, hG⟩ : ∃ G, (genM k N).getD x [] = G := ⟨_, rfl⟩
    simp only [hG] at hgen hcb
    obtain ⟨l, hl⟩ : ∃ l, lenS s k = l := ⟨_, rfl⟩
    simp only [hl] at hcb
    have HE := Lib.hid (And.intro hreb (And.intro hEl (And.intro hl hok)))
    have x0 : (0 : Int) ≤ (x : Int) := by omega
    have x1 : (x : Int) < (N : Int) := by omega
    clear hok hc hpm hsh hreb hEl hl hEs hEr hGs hGr hR hM hG
    go_wp2_with fail
    go_region_with (first
      | (go_at_call 28; refine (hgen _).mono ?_; rintro e wg ⟨A2, c2, b2, off2, A3, c3, rfl, hbg, rfl, hb2, hcell, hbs3⟩)
      | (go_at_call 37; refine (hdo _ (by first | exact (Below.refl _ _).drew | exact (Below.refl _ _).drew.trans hbg)).mono ?_; rintro e wd ⟨A4, c4, rfl, hc4, hms4, hbd⟩
         try have hcell := (hbd.cell (p := ⟨b2, off2 + x, none⟩) hb2).trans hcell)
      | (go_at_call 29; refine (hcb _ _ _ _ _ (by first | exact hbs3 | exact hbs3.on hbd) (by first | exact hms4 | exact hms4.on hbg)).mono ?_; rintro e wc ⟨g5, rfl, hbs5, hbc⟩))
    all_goals
      have hbl : Below w.heap.size w wc := by
        first
          | exact below2 (below2 (below2 (below2 hb1 (Below.refl _ _).drew) hbg) hbd) hbc
          | exact below2 (below2 (below2 (below2 hb1 (Below.refl _ _).drew) hbd) hbg) hbc
      have K := Lib.hid (And.intro hbs5 hbl)
      clear hbs5 hbl hbs3 hms4 hcell hbg hbd hbc hcb hdo hgen
      go_wp2_with fail
      go_ret2
      refine ⟨d', hp, hr, .inr (.inr ⟨HE.out.2.2.2, hkn, ?_⟩)⟩
      rw [HE.out.1]
      exact ⟨some ⟨g5, 0, none⟩, lenS s k, by rw [HE.out.2.1]; first | rfl | (rw [HE.out.2.2.1]; rfl), by rw [HE.out.2.1]; first | exact K.out.1 | (rw [HE.out.2.2.1]; exact K.out.1), by rw [HE.out.2.1]; first | exact Nat.le_refl _ | (rw [HE.out.2.2.1]; exact Nat.le_refl _), K.out.2⟩
end Go.Proofs.Ytmaekebebllncaa
