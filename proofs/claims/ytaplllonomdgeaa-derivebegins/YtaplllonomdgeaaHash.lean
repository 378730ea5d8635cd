/- What a hash is in memory, and what its words are. No claim of its own. -/
import Derived.Test.YtaplllonomdgeaaPadding
import Derived.Test.YtaplllonomdgeaaComp
namespace Go.Proofs.Ytaplllonomdgeaa
open Go.RowKit

/-- block b holds a hash: its state, its tail, its size -/
def Hsh (w : World) (b : Nat) (st tl : List Int) (n : Nat) : Prop := Ar w b 0 .u32 st ∧ Ar w b 8 .u8 tl ∧ Ar w b 72 .i64 [(n : Int)]
theorem Hsh.below {w w' : World} {b n B : Nat} {st tl : List Int} (h : Hsh w b st tl n) (hb : Below B w w') (hB : b < B) : Hsh w' b st tl n := ⟨h.1.below hb hB, h.2.1.below hb hB, h.2.2.below hb hB⟩
theorem Hsh.lt {w : World} {b n : Nat} {st tl : List Int} (h : Hsh w b st tl n) : b < w.heap.size := h.2.2.lt (by simp)
theorem Hsh.size {w : World} {b n : Nat} {st tl : List Int} (h : Hsh w b st tl n) : w.cell? ⟨b, 72, none⟩ = some (.int .i64 n) := h.2.2.cell 0 (by simp)
/-- the words of the whole blocks -/
def hw (st : List Int) (n : Nat) : List Int := if n = 0 then fst8 else st

set_option maxHeartbeats 2000000 in
theorem hwords_any (w : World) (b n : Nat) (st tl : List Int) (h : Hsh w b st tl n) (hl : st.length = 8) :
    Calls Try.prog 40 #[.pointer (some ⟨b, 0, none⟩)] w fun e w' => e = .returned (.agg (ints .u32 (hw st n))) ∧ Below w.heap.size w w' := by
  have hlt := h.lt
  have BA : Below w.heap.size w (w.alloc (.cells (ints .u32 z8) 60)) := (Below.refl _ _).alloc (Nat.le_refl _) _
  have h1 : Hsh (w.alloc (.cells (ints .u32 z8) 60)) b st tl n := h.below BA hlt
  have c72 := h1.size
  have AN : Ar (w.alloc (.cells (ints .u32 z8) 60)) w.heap.size 0 .u32 z8 := Ar.new w _ _ _
  have hzz : (w.alloc (.cells (ints .u32 z8) 60)).heap.size = w.heap.size + 1 := by simp
  have HL : Hid (st.length = 8) := hl
  have HA : Hid (Ar (w.alloc (.cells (ints .u32 z8) 60)) b 0 .u32 st) := h1.1
  have HN : Hid (Ar (w.alloc (.cells (ints .u32 z8) 60)) w.heap.size 0 .u32 z8) := AN
  have HF : Hid (fst8.length = 8) := rfl
  clear h h1 hl AN
  by_cases hn : n = 0
  · subst hn
    go_enter Try.func40, Try.ntmps40
    go_wp2_with (first
      | (refine new_law _ rfl 60 rfl .u32 z8 z_arr8 ?_)
      | (go_at_call 47; refine (firstState_any _).mono ?_; rintro e w1 ⟨rfl, hb1⟩; have A1 : Ar w1 w.heap.size 0 .u32 z8 := HN.out.below hb1 (by rw [hzz]; omega); have B1 := BA.trans (hb1.mono BA.size))
      | (refine store_law _ rfl (.tmp 2) (.tmp 8) 60 rfl .u32 fst8 _ _ rfl rfl A1.2 8 i_arr8 HF.out ?_)
      | fail)
    refine bodyPost_ret (v := .agg (ints .u32 fst8)) (results_ar rfl _ _ w.heap.size 0 .u32 fst8 rfl (Ar.whole A1.2) 8 59 Try.underlying60 i_arr8 HF.out) rfl ⟨by rw [show hw st 0 = fst8 from rfl], ?_⟩
    exact Lib.below_setCells _ (Nat.le_refl _) _ _ B1
  · have hn' : ¬ (n : Int) = 0 := by omega
    have e : hw st n = st := if_neg hn
    rw [e]
    go_enter Try.func40, Try.ntmps40
    go_wp2_with (first
      | (refine new_law _ rfl 60 rfl .u32 z8 z_arr8 ?_)
      | (refine load_law _ rfl (.tmp 11) 60 rfl .u32 st _ _ rfl HA.out 8 59 Try.underlying60 i_arr8 HL.out ?_)
      | (refine store_law _ rfl (.tmp 2) (.tmp 12) 60 rfl .u32 st _ _ rfl rfl (by rw [HL.out]; exact HN.out.2) 8 i_arr8 HL.out ?_)
      | fail)
    refine bodyPost_ret (v := .agg (ints .u32 st)) (results_ar rfl _ _ w.heap.size 0 .u32 st rfl (Ar.whole (by rw [HL.out]; exact HN.out.2)) 8 59 Try.underlying60 i_arr8 HL.out) rfl ⟨rfl, ?_⟩
    exact Lib.below_setCells _ (Nat.le_refl _) _ _ BA
end Go.Proofs.Ytaplllonomdgeaa
