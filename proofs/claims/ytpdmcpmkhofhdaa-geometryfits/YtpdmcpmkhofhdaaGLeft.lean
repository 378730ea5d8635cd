/- What geometry's Fit and Room answer. No claim of its own. -/
import Derived.Test.YtpdmcpmkhofhdaaGIdx
import Derived.Test.YtpdmcpmkhofhdaaGInts
namespace Go.Proofs.Ytpdmcpmkhofhdaa.ge
open Go.RowKit

theorem inr_at {xs : List Int} (h : InR xs) (k : Nat) (hk : k < xs.length) : 1 ≤ gb xs k ∧ gb xs k ≤ 65535 := by
  have := h xs[k] (List.getElem_mem hk)
  simpa [gb, List.getD, hk] using this
theorem inr_of {xs : List Int} (h : ∀ k, k < xs.length → 1 ≤ gb xs k ∧ gb xs k ≤ 65535) : InR xs := fun s hs => by
  obtain ⟨k, hk, rfl⟩ := List.getElem_of_mem hs
  have := h k hk
  simpa [gb, List.getD, hk] using this
theorem sumq_take (u : Nat) (xs : List Int) (k : Nat) (hk : k < xs.length) : sumq u (xs.take (k + 1)) = sumq u (xs.take k) + qt u (gb xs k).toNat := by
  rw [List.take_succ_eq_append_getElem hk, sumq_app]
  simp [sumq, gb, List.getD, hk]
theorem sumq_small (u : Nat) (hu : 0 < u) (xs : List Int) (h : InR xs) : sumq u xs ≤ 65537 * xs.length := by
  induction xs with
  | nil => simp [sumq]
  | cons s r ih =>
    have h1 := h s (by simp)
    have h2 := qt_small u s.toNat hu (by omega)
    have h3 := ih fun t ht => h t (by simp [ht])
    simp only [sumq, List.length_cons]
    omega
theorem inr_take {xs : List Int} (h : InR xs) (k : Nat) : InR (xs.take k) := fun s hs => h s (List.mem_of_mem_take hs)

set_option maxHeartbeats 1000000 in
theorem left_wrong (g : List Int) (v : Value) (hl : g.length = 6) (h : ¬ Rt g) (w : World) :
    Calls Try.prog 30 #[.agg (ints .i64 g), v] w fun x w' => x = .returned (.tuple #[.int .i64 0, .int .i64 2]) ∧ Below w.heap.size w w' := by
  have S : Hid (∀ w, Calls Try.prog 9 #[.agg (ints .i64 g)] w fun x w' => x = .returned (.int .i64 2) ∧ Below w.heap.size w w') := check_no g hl h
  clear h
  have t0 : (0 : Nat) = 0 := rfl
  go_enter Try.func30, Try.ntmps30
  go_wp2_with (first
    | (have q1 := t1; go_at_call 9; refine (S.out _).mono ?_; rintro e w2 ⟨rfl, B2⟩; have HX : Hid (Ar w2 w.heap.size 0 .i64 g) := HX.out.below B2 (HX.out.lt (by omega)); have BB : Hid (Below w.heap.size w w2) := BB.out.trans (B2.mono BB.out.size); clear B2 t1)
    | (have q9 := HX; refine load_lawS _ (by rfl) _ _ rfl (load_geo HX.out hl) ?_)
    | (have q0 := t0; refine box_lawF _ rfl (.tmp 0) 23 rfl .i64 g rfl ?_; intro w1 X1 B1 L1; have HX : Hid (Ar w1 w.heap.size 0 .i64 g) := X1; have BB : Hid (Below w.heap.size w w1) := B1; have t1 : (0 : Nat) = 0 := rfl; clear X1 t0 B1))
  go_ret2
  exact ⟨rfl, BB.out⟩

set_option maxHeartbeats 4000000 in
theorem left_any (g : List Int) (v : Value) (xs : List Int) (w : World) (hl : g.length = 6) (h : Rt g) (u D sp : Nat) (hu : gb g 1 = (u : Int) + 1) (hu1 : 3 ≤ u ∧ u ≤ 31) (hD : gb g 0 = (D : Int) + 4) (hD1 : D ≤ 60) (hsp : gb g 3 = (sp : Int)) (hsp1 : sp ≤ 8)
    (hv : Nums w v xs) (hn : xs.length ≤ 1000000) (r e : Int) (h13 : ¬ InR xs → r = 0 ∧ e = 13) (h14 : InR xs → ¬ Fits D sp u xs → r = 0 ∧ e = 14) (h0 : Fits D sp u xs → r = (D : Int) - (sp : Int) - (sumq u xs : Nat) ∧ e = 0) :
    Calls Try.prog 30 #[.agg (ints .i64 g), v] w fun x w' => x = .returned (.tuple #[.int .i64 r, .int .i64 e]) ∧ Below w.heap.size w w' := by
  have S : Hid (∀ w, Calls Try.prog 9 #[.agg (ints .i64 g)] w fun x w' => x = .returned (.int .i64 0) ∧ Below w.heap.size w w') := check_yes g hl h
  have SY : Hid (∀ (n : Int) (w : World), 1 ≤ n ∧ n ≤ 65535 → Calls Try.prog 28 #[.int .i64 n] w fun x w' => x = .returned (.bool true) ∧ w' = w) := fun n w h => size_yes n w h
  have SN : Hid (∀ (n : Int) (w : World), ¬ (1 ≤ n ∧ n ≤ 65535) → Calls Try.prog 28 #[.int .i64 n] w fun x w' => x = .returned (.bool false) ∧ w' = w) := fun n w h => size_no n w h
  have T26 : Hid (∀ w, Calls Try.prog 26 #[.agg (ints .i64 g)] w fun x w' => x = .returned (.int .i64 (D : Int)) ∧ Below w.heap.size w w') := fun w => by
    have := db_any g w hl h.1
    rwa [show gb g 0 - 4 = (D : Int) by omega] at this
  have SQ : Hid (∀ (s : Nat) (w : World), 1 ≤ s ∧ s ≤ 65535 → Calls Try.prog 29 #[.agg (ints .i64 g), .int .i64 (s : Int)] w fun x w' => x = .returned (.int .i64 ((qt u s : Nat) : Int)) ∧ Below w.heap.size w w') := fun s w hs => q_any g hl h.1 u s hu hu1 hs w
  have H13 : Hid (¬ InR xs → r = 0 ∧ e = 13) := h13
  have H14 : Hid (InR xs → ¬ Fits D sp u xs → r = 0 ∧ e = 14) := h14
  have H0 : Hid (Fits D sp u xs → r = (D : Int) - (sp : Int) - (sumq u xs : Nat) ∧ e = 0) := h0
  have HV : Hid (Nums w v xs) := hv
  have HU : Hid (3 ≤ u ∧ u ≤ 31) := hu1
  have HS3 : Hid (gb g 3 = (sp : Int)) := hsp
  clear h h13 h14 h0 hu hu1 hD hsp
  obtain ⟨ao, ca, rfl, ha1, ha2, -, ha5⟩ := hv
  have H5 : Hid (0 < xs.length → ∃ b off, ao = some ⟨b, off, none⟩ ∧ ∀ t, t < xs.length → w.cell? ⟨b, off + t, none⟩ = some (.int .i64 (gb xs t))) := ha5
  clear ha5
  obtain ⟨n, hnn⟩ : ∃ n, n = xs.length := ⟨_, rfl⟩
  rw [← hnn] at ha1 hn H5 HV ⊢
  have HN : Hid (n = xs.length) := hnn
  clear hnn
  have t0 : (0 : Nat) = 0 := rfl
  go_enter Try.func30, Try.ntmps30
  go_wp2_with (first
    | (have q1 := t1; go_at_call 9; refine (S.out _).mono ?_; rintro e w2 ⟨rfl, B2⟩; have HX : Hid (Ar w2 w.heap.size 0 .i64 g) := HX.out.below B2 (HX.out.lt (by omega)); have BB : Hid (Below w.heap.size w w2) := BB.out.trans (B2.mono BB.out.size); clear B2 t1)
    | (have q9 := HX; refine load_lawS _ (by rfl) _ _ rfl (load_geo HX.out hl) ?_)
    | (have q0 := t0; refine box_lawF _ rfl (.tmp 0) 23 rfl .i64 g rfl ?_; intro w1 X1 B1 L1; have HX : Hid (Ar w1 w.heap.size 0 .i64 g) := X1; have BB : Hid (Below w.heap.size w w1) := B1; have t1 : (0 : Nat) = 0 := rfl; clear X1 t0 B1))
  go_loopw [16] (fun i wr => ∃ k : Nat, k ≤ n ∧ i = .int .i64 k ∧ Hid (∀ j, j < k → 1 ≤ gb xs j ∧ gb xs j ≤ 65535) ∧ wr = w2) (fun i _ => n - (intOf i).toNat)
  case atStart => exact ⟨0, Nat.zero_le _, rfl, (fun j hj => by omega), rfl⟩
  case round =>
    obtain ⟨k, hk, rfl, HK, rfl⟩ := hrel
    have k0 : (0 : Int) ≤ (k : Int) := by omega
    have q1 : IntKind.i64.wrap (k : Int) = k := by rw [IntKind.wrap_i64]; omega
    by_cases hlt : k < n
    · have k1 : (k : Int) < (n : Int) := by omega
      obtain ⟨bb, bo, rfl, hc⟩ := H5.out (by omega)
      have c1 : wr.cell? ⟨bb, bo + k, none⟩ = some (.int .i64 (gb xs k)) := by
        have := hc k hlt
        rw [BB.out.cell (World.block_lt_of_cell? w _ this)]; exact this
      clear hc
      by_cases hin : 1 ≤ gb xs k ∧ gb xs k ≤ 65535
      · have S1 := Hid.mk' (SY.out (gb xs k) wr hin)
        have HN2 : Hid (∀ j, j < k + 1 → 1 ≤ gb xs j ∧ gb xs j ≤ 65535) := fun j hj => by
          by_cases e : j < k
          · exact HK.out j e
          · have : j = k := by omega
            subst this; exact hin
        clear hin
        go_wp2_with (go_at_call 28; refine S1.out.mono ?_; rintro e wx ⟨rfl, hw⟩; obtain rfl := hw.symm)
        go_roundw
        case rel => exact ⟨k + 1, by omega, by go_num, HN2, by simp⟩
        case measure => simp [intOf]; omega
      · have S1 := Hid.mk' (SN.out (gb xs k) wr hin)
        obtain ⟨rfl, rfl⟩ := H13.out fun hI => hin (inr_at hI k (by have := HN.out; omega))
        clear hin
        go_wp2_with (go_at_call 28; refine S1.out.mono ?_; rintro e wx ⟨rfl, hw⟩; obtain rfl := hw.symm)
        go_ret2
        exact ⟨rfl, BB.out⟩
    · have hkn : k = n := by omega
      subst hkn
      have HI : Hid (InR xs) := inr_of fun j hj => HK.out j (by have := HN.out; omega)
      clear HK SY SN
      by_cases h4 : 4 < k
      · have h4' : (4 : Int) < (k : Int) := by omega
        obtain ⟨rfl, rfl⟩ := H14.out HI.out fun hF => by have := hF.2.1; have := HN.out; omega
        go_wp2
        go_ret2
        exact ⟨rfl, BB.out⟩
      · have h4' : ¬ (4 : Int) < (k : Int) := by omega
        go_wp2
        have S26 : Hid (∀ w', Below wr.heap.size wr w' → Calls Try.prog 26 #[.agg (ints .i64 g)] w' fun x w'' => x = .returned (.int .i64 (D : Int)) ∧ Below wr.heap.size wr w'') := call_class T26.out wr
        have GC := Hid.mk' (geo_class HX.out hl)
        have q2 : IntKind.i64.wrap ((D : Int) - (sp : Int)) = (D : Int) - (sp : Int) := by rw [IntKind.wrap_i64]; omega
        refine region_quietC (C := fun w' => Below wr.heap.size wr w') (by kernel_rfl) (by kernel_rfl) (Below.refl _ _).drew ?_
        refine wpQuiet_step (fun K hK => ?_)
        refine q_loadS (by rfl) (some 27) rfl (.tmp 2) 23 rfl (.pointer (some ⟨w.heap.size, 0, none⟩)) (.agg (ints .i64 g)) rfl (fun w' h => (GC.out w' h).2.2.2.2.2.2) (hK _ ?_)
        simp only [Act.put, List.setIfInBounds_toArray, List.set_cons_zero, List.set_cons_succ]
        clear hK K
        refine wpQuiet_step (fun K hK => ?_)
        refine q_call (by rfl) (some 28) rfl 26 #[.tmp 27] #[23] rfl (fun q w' => by rfl) #[.agg (ints .i64 g)] (by simp only [List.map_toArray, List.map_cons, List.map_nil]; rfl) (.int .i64 (D : Int)) S26.out (hK _ ?_)
        simp only [Act.put, List.setIfInBounds_toArray, List.set_cons_zero, List.set_cons_succ]
        clear hK K
        refine wpQuiet_step (fun K hK => ?_)
        refine q_val (by rfl) (some 29) rfl (.pointer (some ⟨w.heap.size, 3, none⟩)) (fun w' _ => by go_simp) (hK _ ?_)
        simp only [Act.put, List.setIfInBounds_toArray, List.set_cons_zero, List.set_cons_succ]
        clear hK K
        refine wpQuiet_step (fun K hK => ?_)
        refine q_get (by rfl) (some 30) rfl (.tmp 29) 3 rfl .i64 (sp) w.heap.size (3) rfl Try.underlying3 (fun w' h => by rw [← HS3.out]; exact (GC.out w' h).2.2.2.1) (hK _ ?_)
        simp only [Act.put, List.setIfInBounds_toArray, List.set_cons_zero, List.set_cons_succ]
        clear hK K
        refine wpQuiet_step (fun K hK => ?_)
        refine q_val (by rfl) (some 31) rfl (.int .i64 ((D : Int) - (sp : Int))) (fun w' _ => by go_simp) (hK _ ?_)
        simp only [Act.put, List.setIfInBounds_toArray, List.set_cons_zero, List.set_cons_succ]
        clear hK K
        refine wpQuiet_step (fun K hK => ?_)
        refine q_val (by rfl) (some 8) rfl (.int .i64 ((D : Int) - (sp : Int))) (fun w' _ => by rfl) (hK _ ?_)
        simp only [Act.put, List.setIfInBounds_toArray, List.set_cons_zero, List.set_cons_succ]
        clear hK K
        refine wpQuiet_nil ?_
        intro w3 B3
        have HX3 : Hid (Ar w3 w.heap.size 0 .i64 g) := HX.out.below B3 (HX.out.lt (by omega))
        have BB3 : Hid (Below w.heap.size w w3) := BB.out.trans (B3.mono BB.out.size)
        clear HX BB B3 S26 GC
        have HS : Hid (sumq u xs ≤ 65537 * 4) := Nat.le_trans (sumq_small u (by have := HU.out; omega) xs HI.out) (by have := HN.out; omega)
        go_wp2
        go_loopw [8, 34] (fun b i wr => ∃ m : Nat, m ≤ k ∧ i = .int .i64 m ∧ b = .int .i64 ((D : Int) - (sp : Int) - (sumq u (xs.take m) : Nat)) ∧ Hid (Ar wr w.heap.size 0 .i64 g) ∧ Hid (Below w.heap.size w wr)) (fun _ i _ => k - (intOf i).toNat)
        case atStart => exact ⟨0, Nat.zero_le _, rfl, by simp [sumq], HX3, BB3⟩
        case round =>
          clear HX3 BB3
          obtain ⟨m, hm, rfl, rfl, HX, BB⟩ := hrel
          obtain ⟨wa, rfl⟩ : ∃ wx, wx = wr := ⟨_, rfl⟩
          have m0 : (0 : Int) ≤ (m : Int) := by omega
          have q3 : IntKind.i64.wrap (m : Int) = m := by rw [IntKind.wrap_i64]; omega
          have HQ : Hid (sumq u (xs.take m) ≤ 65537 * 4) := Nat.le_trans (sumq_small u (by have := HU.out; omega) (xs.take m) (inr_take HI.out m)) (by rw [List.length_take]; have := HN.out; omega)
          by_cases hlt2 : m < k
          · have m1 : (m : Int) < (k : Int) := by omega
            obtain ⟨bb, bo, rfl, hc⟩ := H5.out (by omega)
            obtain ⟨s, hs⟩ : ∃ s : Nat, gb xs m = (s : Int) := ⟨(gb xs m).toNat, by have := inr_at HI.out m (by have := HN.out; omega); omega⟩
            have hs1 : 1 ≤ s ∧ s ≤ 65535 := by have := inr_at HI.out m (by have := HN.out; omega); omega
            have c1 : wa.cell? ⟨bb, bo + m, none⟩ = some (.int .i64 (s : Int)) := by
              have := hc m hlt2
              rw [BB.out.cell (World.block_lt_of_cell? w _ this), this, hs]
            have S1 := Hid.mk' (SQ.out s wa hs1)
            have HT : Hid (sumq u (xs.take (m + 1)) = sumq u (xs.take m) + qt u s) := by
              have := sumq_take u xs m (by have := HN.out; omega)
              rwa [hs, Int.toNat_natCast] at this
            have hz := qt_small u s (by have := HU.out; omega) hs1.2
            have hq := HQ.out
            obtain ⟨z, hzz⟩ : ∃ z, z = qt u s := ⟨_, rfl⟩
            obtain ⟨y, hyy⟩ : ∃ y, y = sumq u (xs.take m) := ⟨_, rfl⟩
            rw [← hzz] at S1 HT hz
            rw [← hyy] at HT hq ⊢
            have q4 : IntKind.i64.wrap ((D : Int) - (sp : Int) - (y : Int) - (z : Int)) = (D : Int) - (sp : Int) - (y : Int) - (z : Int) := by rw [IntKind.wrap_i64]; omega
            have HR : Hid ((D : Int) - (sp : Int) - (sumq u (xs.take (m + 1)) : Nat) = (D : Int) - (sp : Int) - (y : Int) - (z : Int)) := by show _ = _; rw [HT.out]; omega
            obtain ⟨x, hx⟩ : ∃ x, x = (D : Int) - (sp : Int) - (y : Int) := ⟨_, rfl⟩
            rw [← hx] at q4 HR ⊢
            clear hc hs hs1 hz hq hzz hyy hx HT HQ
            go_wp2_with (first
              | (go_at_call 29; refine S1.out.mono ?_; rintro e w4 ⟨rfl, B4⟩; have HX : Hid (Ar w4 w.heap.size 0 .i64 g) := HX.out.below B4 (HX.out.lt (by omega)); have BB : Hid (Below w.heap.size w w4) := BB.out.trans (B4.mono BB.out.size); clear B4)
              | (have q9 := HX; refine load_lawS _ (by rfl) _ _ rfl (load_geo HX.out hl) ?_))
            go_roundw
            case rel => exact ⟨m + 1, by omega, by go_num, by rw [HR.out], HX, BB⟩
            case measure => simp [intOf]; omega
          · have hmk : m = k := by omega
            subst hmk
            have et : sumq u (xs.take m) = sumq u xs := by rw [List.take_of_length_le (by have := HN.out; omega)]
            rw [et]
            have hs := HS.out
            by_cases hf : sp + sumq u xs ≤ D
            · have hF : Fits D sp u xs := ⟨HI.out, by have := HN.out; omega, hf⟩
              obtain ⟨hr, rfl⟩ := H0.out hF
              rw [← hr]
              have h9 : ¬ r < 0 := by omega
              clear hr hf hF et hs
              go_wp2
              go_ret2
              exact ⟨rfl, BB.out⟩
            · obtain ⟨rfl, rfl⟩ := H14.out HI.out fun hF => hf hF.2.2
              have h9 : (D : Int) - (sp : Int) - (sumq u xs : Nat) < 0 := by omega
              obtain ⟨x, hx⟩ : ∃ x, x = (D : Int) - (sp : Int) - (sumq u xs : Nat) := ⟨_, rfl⟩
              rw [← hx] at h9 ⊢
              clear hf et hs hx
              go_wp2
              go_ret2
              exact ⟨rfl, BB.out⟩
end Go.Proofs.Ytpdmcpmkhofhdaa.ge
