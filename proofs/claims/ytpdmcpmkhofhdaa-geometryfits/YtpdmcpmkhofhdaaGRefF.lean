/- Whether namespaces fit, by the reference. No claim of its own. -/
import Derived.Test.YtpdmcpmkhofhdaaGLeft
namespace Go.Proofs.Ytpdmcpmkhofhdaa.ge
open Go.RowKit

theorem csum_take (u a : Nat) (xs : List Int) (k : Nat) (hk : k < xs.length) : csum u a (xs.take (k + 1)) = if csum u a (xs.take k) ≤ 64 then csum u a (xs.take k) + qt u (gb xs k).toNat else csum u a (xs.take k) := by
  rw [List.take_succ_eq_append_getElem hk, csum_snoc]
  simp [gb, List.getD, hk]
theorem csum_small (u : Nat) (hu : 0 < u) (xs : List Int) (h : InR xs) : ∀ a, a ≤ 65601 → csum u a xs ≤ 65601 := by
  induction xs with
  | nil => intro a ha; exact ha
  | cons s r ih =>
    intro a ha
    have h1 := h s (by simp)
    have h2 := qt_small u s.toNat hu (by omega)
    rw [csum]
    refine ih (fun t ht => h t (by simp [ht])) _ ?_
    split <;> omega

set_option maxHeartbeats 4000000 in
theorem rfit_any (g : List Int) (v : Value) (xs : List Int) (w : World) (hl : g.length = 6) (u D sp : Nat) (hu : gb g 1 = (u : Int) + 1) (hu1 : 3 ≤ u ∧ u ≤ 31) (hD : gb g 0 = (D : Int) + 4) (hD1 : D ≤ 60) (hsp : gb g 3 = (sp : Int)) (hsp1 : sp ≤ 8)
    (hv : Nums w v xs) (hn : xs.length ≤ 1000000) (e : Int) (h13 : ¬ InR xs → e = 13) (h14 : InR xs → ¬ Fits D sp u xs → e = 14) (h0 : Fits D sp u xs → e = 0) :
    Calls Try.prog 22 #[.agg (ints .i64 g), v] w fun x w' => x = .returned (.int .i64 e) ∧ Below w.heap.size w w' := by
  have SY : Hid (∀ (n : Int) (w : World), 1 ≤ n ∧ n ≤ 65535 → Calls Try.prog 23 #[.int .i64 n, .int .i64 1, .int .i64 65535] w fun x w' => x = .returned (.bool true) ∧ w' = w) := fun n w h => in_yes n _ _ w h
  have SN : Hid (∀ (n : Int) (w : World), ¬ (1 ≤ n ∧ n ≤ 65535) → Calls Try.prog 23 #[.int .i64 n, .int .i64 1, .int .i64 65535] w fun x w' => x = .returned (.bool false) ∧ w' = w) := fun n w h => in_no n _ _ w h
  have SQ : Hid (∀ (s : Nat), 1 ≤ s ∧ s ≤ 65535 → ∀ (w : World), Calls Try.prog 19 #[.agg (ints .i64 g), .int .i64 (s : Int)] w fun x w' => x = .returned (.int .i64 ((qt u s : Nat) : Int)) ∧ Below w.heap.size w w') := fun s hs => rquota_any g hl u s hu hu1 hs.2
  have H13 : Hid (¬ InR xs → e = 13) := h13
  have H14 : Hid (InR xs → ¬ Fits D sp u xs → e = 14) := h14
  have H0 : Hid (Fits D sp u xs → e = 0) := h0
  have HU : Hid (3 ≤ u ∧ u ≤ 31) := hu1
  clear h13 h14 h0 hu hu1
  obtain ⟨ao, ca, rfl, ha1, ha2, -, ha5⟩ := hv
  have H5 : Hid (0 < xs.length → ∃ b off, ao = some ⟨b, off, none⟩ ∧ ∀ t, t < xs.length → w.cell? ⟨b, off + t, none⟩ = some (.int .i64 (gb xs t))) := ha5
  clear ha5
  obtain ⟨n, hnn⟩ : ∃ n, n = xs.length := ⟨_, rfl⟩
  rw [← hnn] at ha1 hn H5 ⊢
  have HN : Hid (n = xs.length) := hnn
  clear hnn
  have t0 : (0 : Nat) = 0 := rfl
  have HSP : Hid (gb g 3 = (sp : Int)) := hsp
  have HD : Hid (gb g 0 = (D : Int) + 4) := hD
  clear hsp hD
  go_enter Try.func22, Try.ntmps22
  go_wp2_with ((have q0 := t0; refine box_lawF _ rfl (.tmp 0) 23 rfl .i64 g rfl ?_; intro w1 X1 B1 L1; have HX : Hid (Ar w1 w.heap.size 0 .i64 g) := X1; have BB : Hid (Below w.heap.size w w1) := B1; have c3 : w1.cell? ⟨w.heap.size, 3, none⟩ = some (.int .i64 (sp : Int)) := (by rw [(geo_cells X1 hl).2.2.2.1, HSP.out]); have t1 : (0 : Nat) = 0 := rfl; clear X1 t0 B1))
  go_loopw [5, 6] (fun a i wr => ∃ k : Nat, k ≤ n ∧ i = .int .i64 k ∧ a = .int .i64 (csum u sp (xs.take k) : Nat) ∧ Hid (∀ j, j < k → 1 ≤ gb xs j ∧ gb xs j ≤ 65535) ∧ Hid (Ar wr w.heap.size 0 .i64 g) ∧ Hid (Below w.heap.size w wr)) (fun _ i _ => n - (intOf i).toNat)
  case atStart => exact ⟨0, Nat.zero_le _, rfl, by simp [csum], (fun j hj => by omega), HX, BB⟩
  case round =>
    clear HX BB c3
    obtain ⟨k, hk, rfl, rfl, HK, HX, BB⟩ := hrel
    obtain ⟨wa, rfl⟩ : ∃ wx, wx = wr := ⟨_, rfl⟩
    have k0 : (0 : Int) ≤ (k : Int) := by omega
    have q1 : IntKind.i64.wrap (k : Int) = k := by rw [IntKind.wrap_i64]; omega
    have HC : Hid (csum u sp (xs.take k) ≤ 65601) := csum_small u (by have := HU.out; omega) _ (inr_of fun j hj => by
      rw [List.length_take] at hj
      have e : gb (xs.take k) j = gb xs j := by have := gb_cut xs 0 k j (by omega); rwa [List.drop_zero, Nat.zero_add] at this
      rw [e]; exact HK.out j (by omega)) sp (by omega)
    by_cases hlt : k < n
    · have k1 : (k : Int) < (n : Int) := by omega
      obtain ⟨bb, bo, rfl, hc⟩ := H5.out (by omega)
      have hbl := World.block_lt_of_cell? w _ (hc k hlt)
      by_cases hin : 1 ≤ gb xs k ∧ gb xs k ≤ 65535
      · obtain ⟨s, hs⟩ : ∃ s : Nat, gb xs k = (s : Int) := ⟨(gb xs k).toNat, by omega⟩
        have hs1 : 1 ≤ s ∧ s ≤ 65535 := by omega
        have CW : Hid (∀ w', Below wa.heap.size wa w' → w'.cell? ⟨bb, bo + k, none⟩ = some (.int .i64 (s : Int))) := fun w' hb => by
          rw [hb.cell (Nat.lt_of_lt_of_le hbl BB.out.size), BB.out.cell hbl, hc k hlt, hs]
        have c1 := CW.out wa (Below.refl _ _)
        have S1 := Hid.mk' (SY.out (s : Int) wa (by omega))
        have HN2 : Hid (∀ j, j < k + 1 → 1 ≤ gb xs j ∧ gb xs j ≤ 65535) := fun j hj => by
          by_cases e : j < k
          · exact HK.out j e
          · have : j = k := by omega
            subst this; exact hin
        have HT : Hid (csum u sp (xs.take (k + 1)) = if csum u sp (xs.take k) ≤ 64 then csum u sp (xs.take k) + qt u s else csum u sp (xs.take k)) := by
          have := csum_take u sp xs k (by have := HN.out; omega)
          rwa [hs, Int.toNat_natCast] at this
        have hz := qt_small u s (by have := HU.out; omega) hs1.2
        have T19 := Hid.mk' (SQ.out s hs1)
        have hq := HC.out
        obtain ⟨z, hzz⟩ : ∃ z, z = qt u s := ⟨_, rfl⟩
        obtain ⟨y, hyy⟩ : ∃ y, y = csum u sp (xs.take k) := ⟨_, rfl⟩
        rw [← hzz] at T19 HT hz
        rw [← hyy] at HT hq ⊢
        clear hc hin hs hs1 hzz hyy HC hbl
        by_cases h64 : y ≤ 64
        · have h64' : (y : Int) ≤ 64 := by omega
          have q4 : IntKind.i64.wrap ((y : Int) + (z : Int)) = (y : Int) + (z : Int) := by rw [IntKind.wrap_i64]; omega
          have HR : Hid (((csum u sp (xs.take (k + 1)) : Nat) : Int) = (y : Int) + (z : Int)) := by show _ = _; rw [HT.out, if_pos h64]; omega
          have S19 : Hid (∀ w', Below wa.heap.size wa w' → Calls Try.prog 19 #[.agg (ints .i64 g), .int .i64 (s : Int)] w' fun x w'' => x = .returned (.int .i64 (z : Int)) ∧ Below wa.heap.size wa w'') := call_class T19.out wa
          clear HT T19 hz hq h64
          go_wp2_with (go_at_call 23; refine S1.out.mono ?_; rintro e wx ⟨rfl, hw⟩; obtain rfl := hw.symm)
          have GC := Hid.mk' (geo_class HX.out hl)
          refine region_quietC (C := fun w' => Below wa.heap.size wa w') (by kernel_rfl) (by kernel_rfl) (Below.refl _ _).drew ?_
          refine wpQuiet_step (fun K hK => ?_)
          refine q_val (by rfl) (some 23) rfl (.int .i64 (y : Int)) (fun w' _ => by rfl) (hK _ ?_)
          simp only [Act.put, List.setIfInBounds_toArray, List.set_cons_zero, List.set_cons_succ]
          clear hK K
          refine wpQuiet_step (fun K hK => ?_)
          refine q_loadS (by rfl) (some 24) rfl (.tmp 2) 23 rfl (.pointer (some ⟨w.heap.size, 0, none⟩)) (.agg (ints .i64 g)) rfl (fun w' h => (GC.out w' h).2.2.2.2.2.2) (hK _ ?_)
          simp only [Act.put, List.setIfInBounds_toArray, List.set_cons_zero, List.set_cons_succ]
          clear hK K
          refine wpQuiet_step (fun K hK => ?_)
          refine q_val (by rfl) (some 25) rfl (.slice (some ⟨bb, bo, none⟩) n ca) (fun w' _ => by rfl) (hK _ ?_)
          simp only [Act.put, List.setIfInBounds_toArray, List.set_cons_zero, List.set_cons_succ]
          clear hK K
          refine wpQuiet_step (fun K hK => ?_)
          refine q_val (by rfl) (some 26) rfl (.int .i64 (k : Int)) (fun w' _ => by rfl) (hK _ ?_)
          simp only [Act.put, List.setIfInBounds_toArray, List.set_cons_zero, List.set_cons_succ]
          clear hK K
          refine wpQuiet_step (fun K hK => ?_)
          refine q_val (by rfl) (some 27) rfl (.pointer (some ⟨bb, bo + k, none⟩)) (fun w' _ => by go_simp) (hK _ ?_)
          simp only [Act.put, List.setIfInBounds_toArray, List.set_cons_zero, List.set_cons_succ]
          clear hK K
          refine wpQuiet_step (fun K hK => ?_)
          refine q_get (by rfl) (some 28) rfl (.tmp 27) 3 rfl .i64 ((s : Int)) bb (bo + k) rfl Try.underlying3 (fun w' h => CW.out w' h) (hK _ ?_)
          simp only [Act.put, List.setIfInBounds_toArray, List.set_cons_zero, List.set_cons_succ]
          clear hK K
          refine wpQuiet_step (fun K hK => ?_)
          refine q_call (by rfl) (some 29) rfl 19 #[.tmp 24, .tmp 28] #[23, 3] rfl (fun q w' => by rfl) #[.agg (ints .i64 g), .int .i64 ((s : Int))] (by simp only [List.map_toArray, List.map_cons, List.map_nil]; rfl) (.int .i64 (z : Int)) S19.out (hK _ ?_)
          simp only [Act.put, List.setIfInBounds_toArray, List.set_cons_zero, List.set_cons_succ]
          clear hK K
          refine wpQuiet_step (fun K hK => ?_)
          refine q_val (by rfl) (some 30) rfl (.int .i64 ((y : Int) + (z : Int))) (fun w' _ => by go_simp) (hK _ ?_)
          simp only [Act.put, List.setIfInBounds_toArray, List.set_cons_zero, List.set_cons_succ]
          clear hK K
          refine wpQuiet_step (fun K hK => ?_)
          refine q_val (by rfl) (some 5) rfl (.int .i64 ((y : Int) + (z : Int))) (fun w' _ => by rfl) (hK _ ?_)
          simp only [Act.put, List.setIfInBounds_toArray, List.set_cons_zero, List.set_cons_succ]
          clear hK K
          refine wpQuiet_nil ?_
          intro w3 B3
          have HX3 : Hid (Ar w3 w.heap.size 0 .i64 g) := HX.out.below B3 (HX.out.lt (by omega))
          have BB3 : Hid (Below w.heap.size w w3) := BB.out.trans (B3.mono BB.out.size)
          clear B3 GC S19
          go_wp2
          go_roundw
          case rel => exact ⟨k + 1, by omega, by go_num, by rw [HR.out], HN2, HX3, BB3⟩
          case measure => simp [intOf]; omega
        · have h64' : ¬ (y : Int) ≤ 64 := by omega
          have HR : Hid (((csum u sp (xs.take (k + 1)) : Nat) : Int) = (y : Int)) := by show _ = _; rw [HT.out, if_neg h64]
          clear HT T19 hz hq h64
          go_wp2_with (go_at_call 23; refine S1.out.mono ?_; rintro e wx ⟨rfl, hw⟩; obtain rfl := hw.symm)
          go_roundw
          case rel => exact ⟨k + 1, by omega, by go_num, by rw [HR.out], HN2, HX, BB⟩
          case measure => simp [intOf]; omega
      · have c1 : wa.cell? ⟨bb, bo + k, none⟩ = some (.int .i64 (gb xs k)) := by rw [BB.out.cell hbl]; exact hc k hlt
        have S1 := Hid.mk' (SN.out (gb xs k) wa hin)
        have he := H13.out fun hI => hin (inr_at hI k (by have := HN.out; omega))
        subst he
        clear hin hc hbl HC
        generalize csum u sp (xs.take k) = y at *
        go_wp2_with (go_at_call 23; refine S1.out.mono ?_; rintro e wx ⟨rfl, hw⟩; obtain rfl := hw.symm)
        go_ret
        exact ⟨rfl, BB.out⟩
    · have hkn : k = n := by omega
      subst hkn
      have HI : Hid (InR xs) := inr_of fun j hj => HK.out j (by have := HN.out; omega)
      have et : xs.take k = xs := List.take_of_length_le (by have := HN.out; omega)
      have hcl := csum_le u D (by omega) xs sp
      rw [et] at HC ⊢
      have hq := HC.out
      have d0 : wa.cell? ⟨w.heap.size, 0, none⟩ = some (.int .i64 ((D : Int) + 4)) := by rw [(geo_cells HX.out hl).1, HD.out]
      have qd : IntKind.i64.wrap ((D : Int) + 4 - 4) = (D : Int) := by rw [IntKind.wrap_i64]; omega
      obtain ⟨d, hd⟩ : ∃ d, d = (D : Int) + 4 := ⟨_, rfl⟩
      rw [← hd] at d0 qd
      by_cases h4 : 4 < k
      · have h4' : (4 : Int) < (k : Int) := by omega
        have he := H14.out HI.out fun hF => by have := hF.2.1; have := HN.out; omega
        subst he
        clear hcl hq HC et hd
        generalize csum u sp xs = y at *
        go_wp2
        go_ret
        exact ⟨rfl, BB.out⟩
      · have h4' : ¬ (4 : Int) < (k : Int) := by omega
        by_cases hf : sp + sumq u xs ≤ D
        · have he := H0.out ⟨HI.out, by have := HN.out; omega, hf⟩
          subst he
          have hy : ¬ (D : Int) < (csum u sp xs : Nat) := by have := hcl.2 hf; omega
          clear hcl hq HC et hf hd
          generalize csum u sp xs = y at *
          go_wp2
          go_ret
          exact ⟨rfl, BB.out⟩
        · have he := H14.out HI.out fun hF => hf hF.2.2
          subst he
          have hy : (D : Int) < (csum u sp xs : Nat) := by have : ¬ csum u sp xs ≤ D := fun q => hf (hcl.1 q); omega
          clear hcl hq HC et hf hd
          generalize csum u sp xs = y at *
          go_wp2
          go_ret
          exact ⟨rfl, BB.out⟩
end Go.Proofs.Ytpdmcpmkhofhdaa.ge
