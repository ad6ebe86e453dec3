/-
  THE WALKS of layer 1's calls over slices of bytes: the document's Copy, Same, Mix, Eval, and gf.Mix. Conditions: bytes lie below 256, slices take at most 2^47 - 4096 bytes.
-/
import Derived.Test.YtmaekebebllncaaGfU
import Derived.Deep.QuietTactic
import Derived.BigQuiet
import Derived.StillTailTactics
namespace Go.Proofs.Ytmaekebebllncaa
open Go.RowKit Gf

theorem info5 : (Try.prog.info? 5).map (fun i => (i.zero, i.size, i.bytes)) = some (some (.int .u8 0), 1, 1) := by kernel_rfl
theorem u8_cells : Try.prog.cellsOf 5 = 1 := by kernel_rfl
theorem u8_bytes : Try.prog.bytesOf 5 = 1 := by kernel_rfl

/-- 'the call hands these bytes back' -/
def GivesBytes (n : Nat) (l : List Nat) (w : World) (e : Ending) (w' : World) : Prop := ∃ A c, e = .returned (.slice A n c) ∧ Bs w' w'.heap.size A n l ∧ Below w.heap.size w w'
/-- 'the call hands these bytes back, and a number' -/
def GivesBytesAnd (n : Nat) (l : List Nat) (k : Int) (w : World) (e : Ending) (w' : World) : Prop := ∃ A c, e = .returned (.tuple #[.slice A n c, .int .i64 k]) ∧ Bs w' w'.heap.size A n l ∧ Below w.heap.size w w'

set_option maxRecDepth 100000 in
set_option maxHeartbeats 400000 in
theorem copy_any (A : Option Addr) (n c B : Nat) (l : List Nat) (hn : n ≤ 140737488351232) (w : World) (h : Bs w B A n l) (hB : B ≤ w.heap.size) :
    Calls Try.prog 11 #[.slice A n c] w (GivesBytes n l w) := by
  have hown := World.ownsRow_made (e := 5) (size := 1) (base := w.heap.size) w #[] 0 (Nat.le_refl _) (Nat.zero_le _) rfl
  have h2 : Bs (w.alloc (.cells #[] 5)) B A n l := h.below ((Below.refl _ _).alloc hB _)
  go_enter Try.func11, Try.ntmps11
  go_wp2_with (at_builtin; refine wpList_append_bytes rfl (.tmp 3) (.tmp 4) _ rfl w.heap.size 5 Try.underlying22 info5 _ 0 [] rfl hown c rfl h2 (by omega) (by simp) ?_; intro v' w' hown' hg)
  obtain ⟨A', c', rfl, hbs⟩ := Bs.of_own (l := l) (by simpa using hown') h.2.1
  have hg' : (w.alloc (.cells #[] 5)).grownBy w' (some w.heap.size) := hg
  clear hg
  go_wp2
  go_ret
  exact ⟨A', c', rfl, hbs, ((Below.refl _ _).alloc (Nat.le_refl _) _).grown hg' (by simp) (by intro k hk; injection hk with hk; omega)⟩

set_option maxRecDepth 100000 in
set_option maxHeartbeats 400000 in
theorem same_yes (A A' : Option Addr) (n n' c c' B B' : Nat) (l : List Nat) (w : World) (h : Bs w B A n l) (h' : Bs w B' A' n' l) :
    Calls Try.prog 16 #[.slice A n c, .slice A' n' c'] w fun e w' => e = .returned (.bool true) ∧ w = w' := by
  have e1 := run_bytes_str (P := Try.prog) Try.underlying22 Try.underlying5 Try.underlying9 h c
  have e2 := run_bytes_str (P := Try.prog) Try.underlying22 Try.underlying5 Try.underlying9 h' c'
  obtain ⟨s, hs⟩ : ∃ s, strOfNums (l.map fun x : Nat => (x : Int)) = s := ⟨_, rfl⟩
  rw [hs] at e1 e2
  clear hs h h'
  go_enter Try.func16, Try.ntmps16
  go_wp2
  go_ret
  exact ⟨rfl, rfl⟩

theorem flip_same {P : Program} {f : FuncId} {args : Array Value} {w : World} {E : Ending} (h : Calls P f args w fun e w' => e = E ∧ w = w') : Calls P f args w fun e w' => e = E ∧ w' = w :=
  h.mono fun _ _ ⟨he, hw⟩ => ⟨he, hw.symm⟩

/-- the sum of two rows of bytes, the second times c -/
def mixL (o i : List Nat) (c : Nat) : List Nat := List.zipWith (fun x y => x ^^^ gm y c) o i
theorem mixL_length (o i : List Nat) (c n : Nat) (h : o.length = n) (h' : i.length = n) : (mixL o i c).length = n := by simp [mixL, h, h']
theorem mixL_get (o i : List Nat) (c k n : Nat) (h : o.length = n) (h' : i.length = n) (hk : k < n) : (mixL o i c).getD k 0 = o.getD k 0 ^^^ gm (i.getD k 0) c := by
  have h1 : k < (mixL o i c).length := by rw [mixL_length o i c n h h']; exact hk
  have h2 : k < o.length := by omega
  have h3 : k < i.length := by omega
  rw [List.getD_eq_getElem?_getD, List.getElem?_eq_getElem h1, List.getD_eq_getElem?_getD, List.getElem?_eq_getElem h2, List.getD_eq_getElem?_getD, List.getElem?_eq_getElem h3]
  simp [mixL]
theorem mixL_lt (o i : List Nat) (c : Nat) (h : ∀ x ∈ o, x < 256) (h' : ∀ x ∈ i, x < 256) : ∀ x ∈ mixL o i c, x < 256 := by
  intro x hx
  obtain ⟨k, hk, rfl⟩ := List.getElem_of_mem hx
  simp only [mixL, List.getElem_zipWith]
  exact xor_lt (h _ (List.getElem_mem _)) (gm_lt _ _ (h' _ (List.getElem_mem _)))
theorem mixL_take (o i : List Nat) (c k n : Nat) (h : o.length = n) (h' : i.length = n) (hk : k < n) :
    by8 ((mixL o i c).take (k + 1)) = by8 ((mixL o i c).take k) ++ [.int .u8 ((o.getD k 0 ^^^ gm (i.getD k 0) c : Nat) : Int)] := by
  have hl := mixL_length o i c n h h'
  have hk' : k < (mixL o i c).length := by omega
  have := mixL_get o i c k n h h' hk
  rw [← this, List.take_succ_eq_append_getElem hk', List.getD_eq_getElem?_getD, List.getElem?_eq_getElem hk']
  exact List.map_append

theorem mix_far (A A' : Option Addr) (n n' c c' x : Nat) (_hn : n ≤ 140737488351232) (_hn' : n' ≤ 140737488351232) (hne : n ≠ n') (w : World) :
    Calls Try.prog 42 #[.slice A n c, .slice A' n' c', .int .u8 (x : Int)] w fun e w' => e = .returned (.tuple #[.slice none 0 0, .int .i64 2]) ∧ w = w' := by
  have hne' : ((n : Int) != (n' : Int)) = true := by simp; omega
  go_enter Try.func42, Try.ntmps42
  go_wp2
  go_ret2
  exact ⟨rfl, rfl⟩

end Go.Proofs.Ytmaekebebllncaa
