/- That the statements' own question 'does the program answer at all?' is answered by yes. No claim of its own. -/
import Derived.Test.YtocihlnmajkceaaDoorNum
import Derived.Test.YtocihlnmajkceaaDoorHex
import Derived.Deep.DeepHandedRow
import Derived.Lib.LaidTab
namespace Go.Proofs.YtocihlnmajkceaaDoor
open Go.RowKit

theorem byt_lit (w : World) (xs : List Int) (ha : AllB xs) (hl : xs.length ≤ 9223372036854775807) (cs : Array Value) (hcs : cs.toList = xs.map (Value.int .u8)) (n : Nat) (hn : n = xs.length) :
    Byt (w.alloc (.cells cs 5)) (.slice (some ⟨w.heap.size, 0, none⟩) n n) xs := by
  subst hn
  have h := World.ownsRow_lit (e := 5) (size := 1) (base := w.heap.size) w cs xs.length (Nat.le_refl _) (by simp only [maxLen]; exact hl) (by have := congrArg List.length hcs; simp at this; omega)
  rw [hcs] at h
  exact Byt.own h ha

set_option maxHeartbeats 2000000 in
theorem awake_any (w : World) (ht : Tab w) :
    Calls Tryd.prog 7 #[] w fun e w' => e = .returned (.bool true) ∧ Below w.heap.size w w' := by
  have hB := ht.lt
  have e1 : strOfNums (hexs [26]) = ⟨#[49, 97]⟩ := by kernel_rfl
  have E1 : Hid (strOfNums (hexs [26]) = ⟨#[49, 97]⟩) := e1
  have e2 : num (last8 [1, 2]) = 258 := by kernel_rfl
  have E2 : Hid (num (last8 [1, 2]) = 258) := e2
  clear e1 e2
  go_enter Tryd.func7, Tryd.ntmps7
  go_wp2_with (first
    | (go_at_call 24; refine (hex_any _ [26] _ (byt_lit w [26] (allB_mem (by simp)) (by simp) _ rfl _ rfl) (by simp) (ht.below' hB ((Below.refl _ _).alloc (Nat.le_refl _) _))).mono ?_; rintro e w1 ⟨rfl, hb1⟩; rw [E1.out])
    | (go_at_call 13; refine (num_any _ [1, 2] _ (byt_lit w1 [1, 2] (allB_mem (by simp)) (by simp) _ rfl _ rfl)).mono ?_; rintro e w2 ⟨rfl, hw⟩; obtain rfl := hw.symm; rw [E2.out]))
  go_ret
  refine ⟨rfl, ?_⟩
  have h1 : Below w.heap.size w w1 := ((Below.refl _ _).alloc (Nat.le_refl _) _).trans (hb1.mono (by simp))
  exact h1.alloc h1.size _

/-- what the row's list of variables gives: the table of digits -/
theorem gTab : Tryd.prog.globalNamed "nepenthe/octet.digits" = some 0 := by kernel_rfl
theorem gTabType : (Tryd.prog.globals[0]?).map (·.type) = some 43 := by kernel_rfl
theorem cells_arr16 : Tryd.prog.cellsOf 43 = 16 := by kernel_rfl
theorem table {W : World} (h : laidMetH Tryd.prog [("nepenthe/octet.digits", Rows.laid_nepenthe_octet_digits)] W) : Tab W := by
  have t := Lib.tabIs_of_head (rest := []) (zs := [48, 49, 50, 51, 52, 53, 54, 55, 56, 57, 97, 98, 99, 100, 101, 102]) (k := .u8) gTab gTabType Tryd.underlying43 Tryd.underlying5 cells_u8 cells_arr16 h
  intro i hi
  have := t.cell gTab i hi
  rw [this]
  rfl
end Go.Proofs.YtocihlnmajkceaaDoor
