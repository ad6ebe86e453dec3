/-
  ANY K OF N AT PIECES; THE WALK of the law's heads. Conditions: pieces of one object's chunks, unlike numbers.
-/
import Derived.Test.YtmaekebebllncaaSG
import Derived.Test.YtmaekebebllncaaSC
import Derived.Test.YtmaekebebllncaaOI
namespace Go.Proofs.Ytmaekebebllncaa
open Go.ChangeShapes Go.WideShapes Go.ChangeAt Go.RowKit Gf Go.Sort Go.Shelf
set_option linter.unusedVariables false

/-- pieces are chunks of E, under their numbers -/
def Chunks (N : Nat) (E : List (List Nat)) (d : List Pc) : Prop := (d.map Prod.fst).Nodup ∧ ∀ x ∈ d, (0 ≤ x.1 ∧ x.1 < (N : Int)) ∧ x.2.2 = E.getD x.1.toNat []
section
variable {N k l n : Nat} {E D : List (List Nat)} {d d' : List Pc}
theorem Chunks.i64 (h : Chunks N E d) (hN : N ≤ 255) : I64s d := fun x hx => by
  have := (h.2 x hx).1
  omega
theorem Chunks.ok (h : Chunks N E d) (hE : ∀ i, i < N → (E.getD i []).length = l) (hp : d'.Perm d) (hd : d.length = n) : ∀ j, j < n → OKat N l d' j := fun j hj => by
  have hl : d'.length = n := by rw [hp.length_eq, hd]
  have hx := h.2 (d'.getD j default) (hp.mem_iff.1 (getD_memP d' j (by omega)))
  refine ⟨hx.1, ?_, fun h0 e => ?_⟩
  · rw [hx.2]
    exact hE _ (by omega)
  · have hnd : (d'.map Prod.fst).Nodup := (hp.map Prod.fst).nodup_iff.2 h.1
    have gj : ∀ i, i < n → (d'.map Prod.fst)[i]? = some (d'.getD i default).1 := fun i hi => by
      rw [List.getElem?_map, List.getD_eq_getElem?_getD, List.getElem?_eq_getElem (show i < d'.length by omega)]
      rfl
    have h1 := gj j hj
    have h2 := gj (j - 1) (by omega)
    rw [e] at h1
    obtain ⟨a1, b1⟩ := List.getElem?_eq_some_iff.1 h1
    obtain ⟨a2, b2⟩ := List.getElem?_eq_some_iff.1 h2
    have := (List.getElem_inj hnd).1 (b1.trans b2.symm)
    omega
theorem datS_good (hk : k ≤ n) (hkN : k ≤ N) (hN : N ≤ 255) (hD : Shape D k l) (h : Chunks N (encM D l k N) d) (hp : d'.Perm d) (hr : Rising d') (hd : d.length = n) : datS k N l d' = D := by
  have hE := shape_enc (n := N) hD
  have hok := h.ok (fun i hi => hE.2.1 i hi) hp hd
  have hl : d'.length = n := by rw [hp.length_eq, hd]
  have hlt : (d'.take k).length = k := by rw [List.length_take]; omega
  have hrow : ∀ i, i < k → (datP (d'.take k)).getD i [] = (encM D l k N).getD (rhoP d' i) [] := fun i hi => by
    rw [datP_row _ _ (by omega), take_getD _ _ _ hi]
    exact (h.2 (d'.getD i default) (hp.mem_iff.1 (getD_memP d' i (by omega)))).2
  refine dec_enc (rhoP d') (by omega) hN (fun i hi => rho_lt hok i (by omega)) (fun a b ha hb e => ?_) hD (Shape.mk' (by rw [datP_len, hlt]) (fun i hi => ?_) (fun i hi => ?_)) hrow
  · rcases Nat.lt_trichotomy a b with h1 | h1 | h1
    · have := rho_mono hok hr hl b (by omega) a h1
      omega
    · exact h1
    · have := rho_mono hok hr hl a (by omega) b h1
      omega
  · rw [hrow i hi]
    exact hE.2.1 _ (rho_lt hok i (by omega))
  · rw [hrow i hi]
    exact hE.row _ (rho_lt hok i (by omega))
end
/-- the object's chunks -/
def chunksOf (b : List Nat) (k N : Nat) : List (List Nat) := encM (datM b (lenS b.length k) k) (lenS b.length k) k N
theorem Decode_good (A : Option Addr) (n c k N B : Nat) (b : List Nat) (d : List Pc) (hn : n * 32 ≤ 140737488351232) (hs : b.length ≤ 65536) (hb : ∀ x ∈ b, x < 256) (hk1 : 1 ≤ k) (hkN : k ≤ N) (hN : N ≤ 255) (hkn : k ≤ n) (hc : Chunks N (chunksOf b k N) d) (w : World) (h : Pm w B A n d) (hB : B ≤ w.heap.size) :
    Calls Try.prog 20 #[.slice A n c, .int .i64 (b.length : Int), .int .i64 (k : Int), .int .i64 (N : Int)] w (OutB b 0 w) := by
  refine (Decode_any A n c b.length k N B d hn hs hk1 hkN hN w h hB (hc.i64 hN)).mono ?_
  have hD := shape_dat b (lenS b.length k) k hb
  rintro e w' ⟨d', hp, hr, hcase⟩
  have hok := hc.ok (fun i hi => (shape_enc (n := N) hD).2.1 i hi) hp h.1
  rcases hcase with ⟨h1, _⟩ | ⟨_, h1, _⟩ | ⟨_, _, h1⟩
  · exact absurd hok h1
  · omega
  · have e1 : decS k N b.length d' = b := by
      unfold decS
      rw [datS_good hkn hkN hN hD hc hp hr h.1]
      exact flat_dat b _ k (by rw [Nat.mul_comm]; exact lenS_mul _ _ hk1)
    rw [e1] at h1
    exact h1
theorem Decode_few (A : Option Addr) (n c k N B : Nat) (b : List Nat) (d : List Pc) (hn : n * 32 ≤ 140737488351232) (hs : b.length ≤ 65536) (hb : ∀ x ∈ b, x < 256) (hk1 : 1 ≤ k) (hkN : k ≤ N) (hN : N ≤ 255) (hkn : n < k) (hc : Chunks N (chunksOf b k N) d) (w : World) (h : Pm w B A n d) (hB : B ≤ w.heap.size) :
    Calls Try.prog 20 #[.slice A n c, .int .i64 (b.length : Int), .int .i64 (k : Int), .int .i64 (N : Int)] w (OutB [] 30 w) := by
  refine (Decode_any A n c b.length k N B d hn hs hk1 hkN hN w h hB (hc.i64 hN)).mono ?_
  have hD := shape_dat b (lenS b.length k) k hb
  rintro e w' ⟨d', hp, hr, hcase⟩
  have hok := hc.ok (fun i hi => (shape_enc (n := N) hD).2.1 i hi) hp h.1
  rcases hcase with ⟨h1, _⟩ | ⟨_, h1, h2⟩ | ⟨_, h1, _⟩
  · exact absurd hok h1
  · exact h2
  · omega
theorem Rebuild_good (A : Option Addr) (n c k N x B : Nat) (b : List Nat) (d : List Pc) (hn : n * 32 ≤ 140737488351232) (hs : b.length ≤ 65536) (hb : ∀ x ∈ b, x < 256) (hk1 : 1 ≤ k) (hkN : k ≤ N) (hN : N ≤ 255) (hkn : k ≤ n) (hx : x < N) (hc : Chunks N (chunksOf b k N) d) (w : World) (h : Pm w B A n d) (hB : B ≤ w.heap.size) :
    Calls Try.prog 22 #[.slice A n c, .int .i64 (b.length : Int), .int .i64 (k : Int), .int .i64 (N : Int), .int .i64 (x : Int)] w (OutB ((chunksOf b k N).getD x []) 0 w) := by
  refine (Rebuild_any A n c b.length k N x B d hn hs hk1 hkN hN hx w h hB (hc.i64 hN)).mono ?_
  have hD := shape_dat b (lenS b.length k) k hb
  rintro e w' ⟨d', hp, hr, hcase⟩
  have hok := hc.ok (fun i hi => (shape_enc (n := N) hD).2.1 i hi) hp h.1
  rcases hcase with ⟨h1, _⟩ | ⟨_, h1, _⟩ | ⟨_, _, h1⟩
  · exact absurd hok h1
  · omega
  · have e1 : rebS k N b.length x d' = (chunksOf b k N).getD x [] := by
      unfold rebS
      rw [datS_good hkn hkN hN hD hc hp hr h.1]
      rfl
    rw [e1] at h1
    exact h1

theorem chunks123_1 : (chunksOf [1, 2, 3] 2 4).getD 1 [] = [3, 0] := by
  unfold chunksOf
  rw [enc_data (shape_dat _ _ _ (by decide)) (by omega) 1 (by omega)]
  decide
theorem chunks_len (b : List Nat) (k N i : Nat) (hb : ∀ x ∈ b, x < 256) (hi : i < N) : ((chunksOf b k N).getD i []).length = lenS b.length k := (shape_enc (n := N) (shape_dat b _ k hb)).2.1 i hi

/-- a block of pieces that was built -/
theorem Pm.two {w : World} {g B : Nat} {t : TypeId} {x y : Pc} (hg : w.heap[g]? = some (.cells #[.int .i64 x.1, .slice x.2.1.1 x.2.2.length x.2.1.2, .int .i64 y.1, .slice y.2.1.1 y.2.2.length y.2.1.2] t (0, 0))) (hB : g < B) (hx : Pb w B x) (hy : Pb w B y) : Pm w B (some ⟨g, 0, none⟩) 2 [x, y] := by
  refine ⟨rfl, fun z hz => ?_, fun _ => ⟨g, 0, rfl, hB, fun k hk => ?_⟩⟩
  · rcases List.mem_cons.1 hz with rfl | hz
    · exact hx
    · obtain rfl : z = y := by simpa using hz
      exact hy
  · rw [cell_of_row w g _ _ t _ hg, cell_of_row w g _ _ t _ hg]
    rcases k with _ | _ | k
    · exact ⟨rfl, rfl⟩
    · exact ⟨rfl, rfl⟩
    · omega
theorem Pm.one {w : World} {g B : Nat} {t : TypeId} {x : Pc} (hg : w.heap[g]? = some (.cells #[.int .i64 x.1, .slice x.2.1.1 x.2.2.length x.2.1.2] t (0, 0))) (hB : g < B) (hx : Pb w B x) : Pm w B (some ⟨g, 0, none⟩) 1 [x] := by
  refine ⟨rfl, fun z hz => ?_, fun _ => ⟨g, 0, rfl, hB, fun k hk => ?_⟩⟩
  · obtain rfl : z = x := by simpa using hz
    exact hx
  · rw [cell_of_row w g _ _ t _ hg, cell_of_row w g _ _ t _ hg]
    obtain rfl : k = 0 := by omega
    exact ⟨rfl, rfl⟩

set_option maxRecDepth 100000 in
set_option maxHeartbeats 4000000 in
theorem heads4_any (w : World) : Calls Try.prog 9 #[] w fun e w' => e = .returned (.bool true) ∧ Below w.heap.size w w' := by
  have h123 : ∀ x ∈ [1, 2, 3], x < 256 := by decide
  have hl0 := chunks_len [1, 2, 3] 2 4 0 h123 (by omega)
  have hl3 := chunks_len [1, 2, 3] 2 4 3 h123 (by omega)
  have hl1 := chunks123_1
  have henc := fun (A : Option Addr) (c B : Nat) (hc : 3 ≤ c) (w : World) (h : Bs w B A 3 [1, 2, 3]) (hB : B ≤ w.heap.size) => Encode_yes A 3 c 2 4 B [1, 2, 3] (by omega) (by omega) (by omega) (by omega) hc w h hB
  have hgood := fun (A : Option Addr) (n c B : Nat) (d : List Pc) (hn : n * 32 ≤ 140737488351232) (h2 : 2 ≤ n) (hc : Chunks 4 (chunksOf [1, 2, 3] 2 4) d) (w : World) (h : Pm w B A n d) (hB : B ≤ w.heap.size) => Decode_good A n c 2 4 B [1, 2, 3] d hn (by decide) h123 (by omega) (by omega) (by omega) h2 hc w h hB
  have hfew := fun (A : Option Addr) (n c B : Nat) (d : List Pc) (hn : n * 32 ≤ 140737488351232) (h2 : n < 2) (hc : Chunks 4 (chunksOf [1, 2, 3] 2 4) d) (w : World) (h : Pm w B A n d) (hB : B ≤ w.heap.size) => Decode_few A n c 2 4 B [1, 2, 3] d hn (by decide) h123 (by omega) (by omega) (by omega) h2 hc w h hB
  rw [show lenS [1, 2, 3].length 2 = 2 by decide] at hl0 hl3
  change ∀ (A : Option Addr) (c B : Nat), 3 ≤ c → ∀ w : World, Bs w B A 3 [1, 2, 3] → B ≤ w.heap.size → Calls Try.prog 10 #[.slice A 3 c, .int .i64 2, .int .i64 4] w (OutR 4 (chunksOf [1, 2, 3] 2 4) 0 w) at henc
  obtain ⟨E, hE⟩ : ∃ E, chunksOf [1, 2, 3] 2 4 = E := ⟨_, rfl⟩
  simp only [hE] at henc hgood hfew hl0 hl3 hl1
  clear hE
  go_enter Try.func9, Try.ntmps9
  go_wp2_with fail
  refine (henc _ 3 _ (by omega) _ (Oc.lit_bs w [1, 2, 3] (by decide) _ _) (by simp)).mono ?_
  rintro e w1 ⟨A1, c1, rfl, hc1, hms1, hb1⟩
  have hbl := Oc.row_then hb1
  obtain ⟨b1, off1, A3, c3, rfl, hB1, hv3, hbs3, hre3, hcc3⟩ := hms1.row 3 (by omega)
  obtain ⟨b0, off0, A0, c0, e0, -, hv0, hbs0, hre0, hcc0⟩ := hms1.row 0 (by omega)
  injection e0 with e0
  injection e0 with e1 e2
  subst e1 e2
  obtain ⟨b0, off0, A4, c4, e0, -, hv4, hbs4, hre4, hcc4⟩ := hms1.row 1 (by omega)
  injection e0 with e0
  injection e0 with e1 e2
  subst e1 e2
  rw [hl3] at hv3 hbs3 hcc3
  rw [hl0] at hv0 hbs0 hcc0
  rw [hl1] at hv4 hbs4 hcc4
  have h10 : ([3, 0] : List Nat).length = 2 := rfl
  rw [h10] at hv4 hbs4
  have hpb3 : Pb w1 w1.heap.size (3, (A3, c3), E.getD 3 []) := ⟨by rw [show (3, (A3, c3), E.getD 3 []).2.2.length = 2 from hl3]; exact hbs3, by show (E.getD 3 []).length ≤ _; rw [hl3]; decide, by show (E.getD 3 []).length ≤ _; rw [hl3]; exact hcc3⟩
  have hpb0 : Pb w1 w1.heap.size (0, (A0, c0), E.getD 0 []) := ⟨by rw [show (0, (A0, c0), E.getD 0 []).2.2.length = 2 from hl0]; exact hbs0, by show (E.getD 0 []).length ≤ _; rw [hl0]; decide, by show (E.getD 0 []).length ≤ _; rw [hl0]; exact hcc0⟩
  have hba : Below w1.heap.size w1 (w1.alloc (.cells #[.int .u8 3, .int .u8 0] 5)) := (Below.refl _ _).alloc (Nat.le_refl _) _
  have hlit := Oc.lit_bs w1 [3, 0] (by decide) 5 (0, 0)
  have hsm := Oc.same_yes A4 (some ⟨w1.heap.size, 0, none⟩) 2 2 c4 2 _ _ [3, 0] (w1.alloc (.cells #[.int .u8 3, .int .u8 0] 5)) (hbs4.below hba) hlit
  have P := Lib.hid (And.intro hpb3 (And.intro hpb0 (And.intro hba hbl)))
  have hv3' := (hba.cell (p := ⟨b1, off1 + 3, none⟩) hB1).trans hv3
  have hv0' := (hba.cell (p := ⟨b1, off1 + 0, none⟩) hB1).trans hv0
  rw [Nat.add_zero] at hv0'
  clear hpb3 hpb0 hbs3 hbs0 hbs4 hlit hms1 hre3 hre0 hre4 hcc3 hcc0 hcc4 hb1 hbl hl1 henc hv3 hv0 hba
  go_wp2_with fail
  refine hsm.mono ?_
  rintro e w2 ⟨rfl, rfl⟩
  go_wp2_with fail
  clear hsm
  generalize w1.alloc (.cells #[.int .u8 3, .int .u8 0] 5) = w2 at *
  have hb2w : Below w1.heap.size w1 w2 := P.out.2.2.1
  have hdec : Calls Try.prog 20 #[.slice (some ⟨w2.heap.size, 0, none⟩) 2 2, .int .i64 3, .int .i64 2, .int .i64 4] (w2.drew.alloc (.cells #[.int .i64 3, .slice A3 2 c3, .int .i64 0, .slice A0 2 c0] 65)) (OutB [1, 2, 3] 0 (w2.drew.alloc (.cells #[.int .i64 3, .slice A3 2 c3, .int .i64 0, .slice A0 2 c0] 65))) := by
    have hbb : Below w1.heap.size w1 (w2.drew.alloc (.cells #[.int .i64 3, .slice A3 2 c3, .int .i64 0, .slice A0 2 c0] 65)) := hb2w.drew.alloc hb2w.size _
    have hsz : (w2.drew.alloc (.cells #[.int .i64 3, .slice A3 2 c3, .int .i64 0, .slice A0 2 c0] 65)).heap.size = w2.heap.size + 1 := by simp
    refine hgood _ 2 2 (w2.heap.size + 1) [(3, (A3, c3), E.getD 3 []), (0, (A0, c0), E.getD 0 [])] (by omega) (by omega) ⟨by simp, fun x hx => ?_⟩ _ (Pm.two (t := 65) ?_ (by omega) ((P.out.1.below hbb).more (by have := hb2w.size; omega)) ((P.out.2.1.below hbb).more (by have := hb2w.size; omega))) (by omega)
    · rcases List.mem_cons.1 hx with rfl | hx
      · exact ⟨by simp, rfl⟩
      · obtain rfl : x = _ := by simpa using hx
        exact ⟨by simp, rfl⟩
    · have := heap_alloc_new w2.drew (.cells #[.int .i64 3, .slice A3 2 c3, .int .i64 0, .slice A0 2 c0] 65)
      simp only [hl3, hl0]
      exact this
  go_region_with (go_at_call 20; refine hdec.mono ?_; rintro e w3 ⟨A5, c5, rfl, hbs5, hc5, hb3⟩)
  all_goals
    have hba3 : Below w2.heap.size w2 w3 := ((Below.refl _ _).drew.alloc (Nat.le_refl _) _).trans (hb3.mono (by simp))
    have hb13 : Below w1.heap.size w1 w3 := below2 hb2w hba3
    have hb03 : Below w.heap.size w w3 := below2 P.out.2.2.2 hb13
    have hs1 := hb13.size
    have hv3'' := (hba3.cell (p := ⟨b1, off1 + 3, none⟩) (by have := hb2w.size; show b1 < w2.heap.size; omega)).trans hv3'
    have hdec2 : Calls Try.prog 20 #[.slice (some ⟨w3.heap.size, 0, none⟩) 1 1, .int .i64 3, .int .i64 2, .int .i64 4] (w3.alloc (.cells #[.int .i64 3, .slice A3 2 c3] 65)) (OutB [] 30 (w3.alloc (.cells #[.int .i64 3, .slice A3 2 c3] 65))) := by
      have hbb : Below w1.heap.size w1 (w3.alloc (.cells #[.int .i64 3, .slice A3 2 c3] 65)) := hb13.alloc hb13.size _
      have hsz : (w3.alloc (.cells #[.int .i64 3, .slice A3 2 c3] 65)).heap.size = w3.heap.size + 1 := by simp
      refine hfew _ 1 1 (w3.heap.size + 1) [(3, (A3, c3), E.getD 3 [])] (by omega) (by omega) ⟨by simp, fun x hx => ?_⟩ _ (Pm.one (t := 65) ?_ (by omega) ((P.out.1.below hbb).more (by omega))) (by omega)
      · obtain rfl : x = _ := by simpa using hx
        exact ⟨by simp, rfl⟩
      · have := heap_alloc_new w3 (.cells #[.int .i64 3, .slice A3 2 c3] 65)
        simp only [hl3]
        exact this
    have HB := Lib.hid (And.intro hbs5 hb03)
    clear hdec hgood hfew hba3 hb13 hb03 hbs5 hb3 hb2w hv3' hv0'
    go_wp2_with fail
    refine hdec2.mono ?_
    rintro e w4 ⟨A6, c6, rfl, -, -, hb4⟩
    have hb34 := Oc.row_then hb4
    have hbs6 : Bs (w4.alloc (.cells #[.int .u8 1, .int .u8 2, .int .u8 3] 5)) w3.heap.size A5 3 [1, 2, 3] := (HB.out.1.below hb34).alloc hb34.size _
    have hsm2 := Oc.same_yes A5 (some ⟨w4.heap.size, 0, none⟩) 3 3 c5 3 _ _ [1, 2, 3] (w4.alloc (.cells #[.int .u8 1, .int .u8 2, .int .u8 3] 5)) hbs6 (Oc.lit_bs w4 [1, 2, 3] (by decide) 5 (0, 0))
    have HC := Lib.hid hb34
    clear hb4 hb34 hbs6 hdec2
    go_wp2_with fail
    refine hsm2.mono ?_
    rintro e w5 ⟨rfl, rfl⟩
    go_wp2_with fail
    go_ret
    exact ⟨rfl, (below2 HB.out.2 HC.out).alloc (below2 HB.out.2 HC.out).size _⟩
end Go.Proofs.Ytmaekebebllncaa
