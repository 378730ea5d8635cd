/- What bytes.Clone and fault's copyOf answer: all in new memory. No claim of its own. -/
import Derived.Test.YtnklbmeadjgehaaUFlt
import Derived.Lib.SliceRun
namespace Go.Proofs.Ytnklbmeadjgehaa.fa
open Go.RowKit
set_option maxRecDepth 20000

/-- v holds the bytes xs, in memory from block B on that may be written -/
def Bow (B : Nat) (w : World) (v : Value) (xs : List Int) : Prop := Byt w v xs ∧ (0 < xs.length → ∃ b off cap, v = .slice (some ⟨b, off, none⟩) xs.length cap ∧ B ≤ b ∧ ∀ j, j < xs.length → w.frozen? ⟨b, off + j, none⟩ = false)
theorem Bow.nil (B : Nat) (w : World) : Bow B w (.slice none 0 0) [] := ⟨Byt.nil w, fun h => by simp at h⟩
theorem bow_own {B : Nat} {w : World} {v : Value} {xs : List Int} (h : Own B w v xs) (ha : AllB xs) : Bow B w v xs := by
  refine ⟨h.byt ha, fun hp => ?_⟩
  obtain ⟨g, cap, rfl, oc⟩ := own_row h hp
  exact ⟨g, 0, cap, rfl, oc.2.1, fun j _ => by rw [Nat.zero_add]; exact oc.free j⟩
theorem Bow.below {B : Nat} {w w' : World} {v : Value} {xs : List Int} (h : Bow B w v xs) (hb : Below w.heap.size w w') : Bow B w' v xs := by
  refine ⟨h.1.below hb, fun hp => ?_⟩
  obtain ⟨b, off, cap, rfl, h1, h2⟩ := h.2 hp
  obtain ⟨ao, cap', e, _, _, _, _, h5⟩ := h.1
  cases e
  obtain ⟨b', off', e', hc⟩ := h5 hp
  cases e'
  exact ⟨b, off, cap, rfl, h1, fun j hj => by rw [hb.frozen (World.block_lt_of_cell? w _ (hc j hj))]; exact h2 j hj⟩
theorem Bow.mono {B B' : Nat} {w : World} {v : Value} {xs : List Int} (h : Bow B w v xs) (hb : B' ≤ B) : Bow B' w v xs := ⟨h.1, fun hp => by
  obtain ⟨b, off, cap, rfl, h1, h2⟩ := h.2 hp
  exact ⟨b, off, cap, rfl, by omega, h2⟩⟩
theorem Bow.other {B : Nat} {w : World} {v u old : Value} {xs : List Int} {p : Addr} (h : Bow B w v xs) (hc : w.cell? p = some old) (ho : ∀ x, old ≠ .int .u8 x) : Bow B (w.setCell p u) v xs := by
  refine ⟨byt_other h.1 hc ho, fun hp => ?_⟩
  obtain ⟨b, off, cap, rfl, h1, h2⟩ := h.2 hp
  exact ⟨b, off, cap, rfl, h1, fun j hj => by rw [World.frozen?_setCell]; exact h2 j hj⟩
theorem byt_one_cell {w : World} {v : Value} {xs : List Int} (h : Byt w v xs) : v.oneCell' = true := by
  obtain ⟨ao, cap, rfl, _⟩ := h
  rfl
theorem byt_no_u8 {w : World} {v : Value} {xs : List Int} (h : Byt w v xs) : ∀ x, v ≠ .int .u8 x := by
  obtain ⟨ao, cap, rfl, _⟩ := h
  intro x e
  cases e

/-- bytes last where a fault is written -/
theorem bow_cells {B : Nat} {w : World} {v : Value} {xs : List Int} {b p : Nat} {f f' : Int × Bool × Value} (hf : FlA w b p f) (hm : ∀ x, f.2.2 ≠ .int .u8 x) (h : Bow B w v xs) : Bow B (w.setCells b p (fl f')) v xs := by
  have h1 := h.other (u := .int .i64 f'.1) hf.1 (by intro x e; cases e)
  have c1 : (w.setCell ⟨b, p, none⟩ (.int .i64 f'.1)).cell? ⟨b, p + 1, none⟩ = some (.bool f.2.1) := by
    rw [World.cell?_setCell_other _ _ _ _ (by intro e; injection e with _ e2; omega)]; exact hf.2.1
  have h2 := h1.other (u := .bool f'.2.1) c1 (by intro x e; cases e)
  have c2 : ((w.setCell ⟨b, p, none⟩ (.int .i64 f'.1)).setCell ⟨b, p + 1, none⟩ (.bool f'.2.1)).cell? ⟨b, p + 2, none⟩ = some f.2.2 := by
    rw [World.cell?_setCell_other _ _ _ _ (by intro e; injection e with _ e2; omega), World.cell?_setCell_other _ _ _ _ (by intro e; injection e with _ e2; omega)]; exact hf.2.2
  exact h2.other (u := f'.2.2) c2 hm

set_option maxHeartbeats 1000000 in
theorem bclone_any (v : Value) (xs : List Int) (w : World) (h : Byt w v xs) (hl : xs.length ≤ 140737488355328) :
    Calls Try.prog 46 #[v] w fun e w' => ∃ v', e = .returned v' ∧ Bow w.heap.size w' v' xs ∧ Below w.heap.size w w' := by
  have hall := h.all
  have HA : Hid (AllB xs) := hall
  have HV : Hid (Byt (w.alloc (.cells #[] 5)) v xs) := h.below ((Below.refl _ _).alloc (Nat.le_refl _) _)
  obtain ⟨ao, cap, rfl, h1, h2, h3, h4, h5⟩ := h
  cases ao with
  | none =>
    have hc := h4 rfl
    subst hc
    have e : xs = [] := List.eq_nil_of_length_eq_zero (by omega)
    subst e
    have qn : ∀ w : World, (binOp .eql 53 (.slice none 0 0) (.slice none 0 0)).run Try.prog w = .ok (.bool true) w := fun w => Lib.run_eql_slice_nil w _ _ none 0 0 0 0 Try.underlying53
    clear h1 h2 h3 h4 h5 hall HV
    go_enter Try.func46, Try.ntmps46
    go_wp2
    go_ret
    exact ⟨_, rfl, Bow.nil _ _, Below.refl _ _⟩
  | some ad =>
    have HO : Hid (Own w.heap.size (w.alloc (.cells #[] 5)) (.slice (some ⟨w.heap.size, 0, none⟩) 0 0) []) := Own.empty w (Nat.le_refl _)
    have B0 : Below w.heap.size w (w.alloc (.cells #[] 5)) := (Below.refl _ _).alloc (Nat.le_refl _) _
    have z0 := B0.size
    have qn : ∀ w : World, (binOp .eql 53 (.slice (some ad) xs.length cap) (.slice none 0 0)).run Try.prog w = .ok (.bool false) w := fun w => Lib.run_eql_slice_nil w _ _ (some ad) xs.length cap 0 0 Try.underlying53
    clear h3 h4 h5 hall
    go_enter Try.func46, Try.ntmps46
    go_wp2_with (refine pushs_law _ rfl (.tmp 5) (.tmp 6) rfl w.heap.size z0 _ _ [] xs rfl rfl HO.out HV.out (by simp only [List.length_nil]; omega) ?_; intro v1 w1 O1 b1; rw [List.nil_append] at O1; have HO1 : Hid (Own w.heap.size w1 v1 xs) := O1; clear O1; have c1 : Below w.heap.size w w1 := B0.trans b1)
    go_ret
    exact ⟨_, rfl, bow_own HO1.out HA.out, c1⟩

set_option maxHeartbeats 2000000 in
theorem copyOf_any (f : Int × Bool × Value) (xs : List Int) (w : World) (h : Byt w f.2.2 xs) (hl : xs.length ≤ 140737488355328) :
    Calls Try.prog 60 #[fv f] w fun e w' => ∃ m', e = .returned (fv (f.1, f.2.1, m')) ∧ Bow w.heap.size w' m' xs ∧ Below w.heap.size w w' := by
  have H : Hid (Byt w f.2.2 xs) := h
  have S : Hid (∀ w0, Below w.heap.size w w0 → Calls Try.prog 46 #[f.2.2] w0 fun e w' => ∃ v', e = .returned v' ∧ Bow w0.heap.size w' v' xs ∧ Below w0.heap.size w0 w') := fun w0 hb => bclone_any f.2.2 xs w0 (h.below hb) hl
  clear h hl
  have t0 : (0 : Nat) = 0 := rfl
  go_enter Try.func60, Try.ntmps60
  go_wp2_with (first
    | (have q0 := t0; refine box_lawV _ f rfl ?_; intro w1 V1 B1 l1; have HV1 : Hid (FlV w1 w.heap.size f) := V1; clear V1 t0; have t1 : (1 : Nat) = 1 := rfl)
    | (have q1 := t1; refine new_lawV _ ?_; intro w2 V2 B2 l2; have HV2 : Hid (FlV w2 w1.heap.size f0) := V2; have HV1 : Hid (FlV w2 w.heap.size f) := HV1.out.below B2 l1; have c2 := HV1.out.1.2.2; clear V2 t1; have t2 : (2 : Nat) = 2 := rfl)
    | (have q4 := t4; refine store_lawV _ (f.1, f.2.1, .slice ao3 xs.length cap3) w1.heap.size 0 rfl rfl HV2.out.2 rfl ?_; intro w5 E5 A5 T5 B5; have HA5 : Hid (FlA w5 w1.heap.size 0 (f.1, f.2.1, .slice ao3 xs.length cap3)) := A5; clear A5 T5 t4)
    | (have q3 := t3; refine load_lawS _ (by rfl) _ _ rfl (load_fault HV4.out.1) ?_; clear t3; have t4 : (4 : Nat) = 4 := rfl)
    | (have q2 := t2; go_at_call 46; refine (S.out _ (B1.trans (B2.mono (by omega)))).mono ?_; rintro e w3 ⟨m3, rfl, y3, B3⟩; obtain ⟨ao3, cap3, rfl⟩ := byt_form y3.1
       have Y3 : Hid (Bow w2.heap.size w3 (.slice ao3 xs.length cap3) xs) := y3
       have HV1 : Hid (FlV w3 w.heap.size f) := HV1.out.below B3 (by omega)
       have HV2 : Hid (FlV w3 w1.heap.size f0) := HV2.out.below B3 (by omega)
       have d2 := HV1.out.1.2.2
       have e2 : w3.frozen? ⟨w.heap.size, 2, none⟩ = false := (HV1.out.2 2 (by omega)).2
       have HV4 : Hid (FlV (w3.setCell ⟨w.heap.size, 2, none⟩ (.slice ao3 xs.length cap3)) w.heap.size (f.1, f.2.1, .slice ao3 xs.length cap3)) := HV1.out.mask _
       have HV2 : Hid (FlV (w3.setCell ⟨w.heap.size, 2, none⟩ (.slice ao3 xs.length cap3)) w1.heap.size f0) := flv_other HV2.out _ (by omega)
       clear y3 t2; have t3 : (3 : Nat) = 3 := rfl))
  have C3 : Below w.heap.size w w3 := B1.trans ((B2.mono (by omega)).trans (B3.mono (by omega)))
  refine bodyPost_ret (v := fv (f.1, f.2.1, .slice ao3 xs.length cap3)) (results_flt rfl _ _ w1.heap.size _ rfl HA5.out) rfl ⟨_, rfl, ?_, ?_⟩
  · have Z3 := (Y3.out.mono (show w.heap.size ≤ w2.heap.size by omega)).other (u := .slice ao3 xs.length cap3) d2 (byt_no_u8 H.out)
    rw [E5.out]
    exact bow_cells HV2.out.1 (by intro x e; cases e) Z3
  · exact (C3.setCell (Nat.le_refl _) _).trans (B5.mono (by omega))
end Go.Proofs.Ytnklbmeadjgehaa.fa
