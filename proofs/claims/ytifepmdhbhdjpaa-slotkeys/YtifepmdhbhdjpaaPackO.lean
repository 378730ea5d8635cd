/- Texts put together (a claim holds few files). No claim of its own. -/
import Derived.Test.YtifepmdhbhdjpaaPackM
/- What the reference's Unwrap of layer 10 answer. No claim of its own. -/
namespace Go.Proofs.Ytifepmdhbhdjpaa.wr
open Go.RowKit
set_option maxRecDepth 20000

set_option linter.unusedSimpArgs false in
set_option maxRecDepth 20000 in
set_option maxHeartbeats 4000000 in
theorem runwrap_any (kv bv tv : Value) (key c : List Int) (n : Nat) (w : World) (hk : Byt w kv key) (hkl : key.length = 32) (hb : Byt w bv c) (hbl : c.length = 8 * n + 8) (hn : 1 ≤ n) (hn' : n ≤ 32) (ht : Byt w tv ptab) :
    Calls Try.prog 15 #[kv, bv, tv] w fun e w' => ∃ v', e = .returned (.tuple #[v', .bool (decide (hd (unwr key c n) = a6))]) ∧ Byt w' v' ((unwr key c n).drop 8) ∧ Below w.heap.size w w' := by
  have hka := hk.all
  have fit : ∀ k, Fit (8 * n + 8) (us key n c (6 * n) k) := fun k => us_fit key hkl hka n (by omega) _ ⟨hbl, hb.all⟩ _ k
  have SF : Hid (∀ w, Calls Try.prog 26 #[.int .u8 166, .int .i64 8] w fun e w' => ∃ v, e = .returned v ∧ Byt w' v a6 ∧ Below w.heap.size w w') := fun w => by
    have := rfill_any 166 8 w (by omega)
    rw [show clamp 8 65536 = 8 by unfold clamp; omega] at this
    exact this
  have SK : Hid (∀ k, ∃ S0 S1 E A M X1 D : List Int, S0.length = 8 ∧ S1.length = 8 ∧ AllB (S0 ++ S1) ∧ E.length = 16 ∧ ((us key n c (6 * n) k).take (ix n (6 * n - k) + 8)).drop (ix n (6 * n - k)) = S1 ∧ E.take 8 = A ∧ E.drop 8 = X1 ∧ ((us key n c (6 * n) k).take (ix n (6 * n - k))).drop 8 = M ∧ (us key n c (6 * n) k).drop (ix n (6 * n - k) + 8) = D ∧ A.length = 8 ∧ M.length ≤ 1000 ∧ X1.length = 8 ∧ D.length ≤ 1000 ∧ us key n c (6 * n) (k + 1) = A ++ M ++ X1 ++ D ∧ AllB (us key n c (6 * n) (k + 1)) ∧
      (∀ w' kv bv tv, Byt w' kv key → Byt w' bv (S0 ++ S1) → Byt w' tv ptab → Calls Try.prog 24 #[kv, bv, tv] w' fun e w'' => ∃ v', e = .returned v' ∧ Byt w'' v' E ∧ Below w'.heap.size w' w'') ∧
      (∀ w' v, Byt w' v ((us key n c (6 * n) k).take 8) → Calls Try.prog 25 #[v, .int .i64 ((6 * n - k : Nat) : Int)] w' fun e w'' => ∃ v', e = .returned v' ∧ Own w'.heap.size w'' v' S0 ∧ Below w'.heap.size w' w'')) := fun k => by
    have hf := fit k
    have hbd := ix_bd n (6 * n - k) (by omega)
    have hl := hf.1
    have hin := out_blk _ _ (6 * n - k) _ hf hbd.1 hbd.2
    have hX := decr_blk key hkl hka _ hin
    have hh := half _ hX
    have hxb := xb (hd (us key n c (6 * n) k)) (6 * n - k) (hd_len _ (by omega)) (hd_all _ hf.2)
    refine ⟨xorl (hd (us key n c (6 * n) k)) (b8 (6 * n - k)), _, decr key (xorl (hd (us key n c (6 * n) k)) (b8 (6 * n - k)) ++ pt (us key n c (6 * n) k) (ix n (6 * n - k))), _, _, _, _, hxb.1, pt_len _ _ (by omega), hin.2, hX.1, rfl, rfl, rfl, rfl, rfl, hh.1.1, ?_, hh.2.1, ?_, rfl, (fit (k + 1)).2, fun w' kv bv tv h1 h2 h3 => rdecrypt_any kv bv tv key _ w' h1 hkl h2 hin.1 h3, fun w' v h => rmixed8_any v _ (6 * n - k) w' h (hd_len _ (by omega)) (by omega)⟩
    · rw [mid_len _ _ (by omega)]; omega
    · rw [List.length_drop]; omega
  have HW : Hid (unwr key c n = us key n c (6 * n) (6 * n)) := rfl
  have HR0 : Hid (us key n c (6 * n) 0 = c) := rfl
  have HL : Hid (∀ k, (us key n c (6 * n) k).length = 8 * n + 8) := fun k => (fit k).1
  have HC : Hid (AllB c) := hb.all
  have HK : Hid (Byt w kv key) := hk
  have HT : Hid (Byt w tv ptab) := ht
  have HV : Hid (Byt w bv c) := hb
  have HPB : Hid (∀ k, 8 ≤ ix n (6 * n - k) ∧ ix n (6 * n - k) + 8 ≤ 8 * n + 8) := fun k => ix_bd n (6 * n - k) (by omega)
  have HPM : Hid (∀ k : Nat, k < 6 * n → ∃ r : Nat, r < n ∧ (((6 * n - k : Nat) : Int) - 1).tmod (n : Int) = (r : Int) ∧ ix n (6 * n - k) = 8 * r + 8) := fun k hk => ⟨(6 * n - k - 1) % n, Nat.mod_lt _ (by omega), by rw [Int.tmod_eq_emod_of_nonneg (by omega), show ((6 * n - k : Nat) : Int) - 1 = ((6 * n - k - 1 : Nat) : Int) by omega]; rfl, by unfold ix; omega⟩
  clear hk hka ht fit hkl
  obtain ⟨R, hR⟩ : ∃ R : Nat → List Int, R = us key n c (6 * n) := ⟨_, rfl⟩
  obtain ⟨px, hpx⟩ : ∃ px : Nat → Nat, px = fun k => ix n (6 * n - k) := ⟨_, rfl⟩
  have ep : ∀ k, ix n (6 * n - k) = px k := fun k => by rw [hpx]
  simp only [ep] at SK HPB HPM
  rw [← hR] at HW HR0 HL SK
  clear hR hpx ep
  generalize unwr key c n = Z at *
  generalize ptab = tab at *
  obtain ⟨bo, bc, rfl, hb1, hb2, -, -, -⟩ := hb
  have HBL : Hid (c.length ≤ 1000) := by show _ ≤ _; omega
  rw [hbl] at hb1 HV ⊢
  clear hbl
  obtain ⟨L, hL⟩ : ∃ L, L = 8 * n + 8 := ⟨_, rfl⟩
  obtain ⟨T, hT⟩ : ∃ T, T = 6 * n := ⟨_, rfl⟩
  rw [← hL] at HL HPB HV hb1 ⊢
  rw [← hT] at HW SK HPM
  have d1 : (L : Int).tdiv 8 = (n : Int) + 1 := by rw [Int.tdiv_eq_ediv_of_nonneg (by omega)]; omega
  have d2 : IntKind.i64.wrap ((n : Int) + 1) = (n : Int) + 1 := by rw [IntKind.wrap_i64]; omega
  have d3 : IntKind.i64.wrap ((n : Int) + 1 - 1) = (n : Int) := by rw [IntKind.wrap_i64]; omega
  have d5 : IntKind.i64.wrap (n : Int) = (n : Int) := by rw [IntKind.wrap_i64]; omega
  have k6 : IntKind.i64.wrap (6 * (n : Int)) = (T : Int) := by rw [IntKind.wrap_i64]; omega
  have n0 : ¬ ((n : Int) = 0) := by omega
  have L0 : 16 ≤ L ∧ L ≤ 264 := by omega
  have T0 : T ≤ 192 := by omega
  have HLN : Hid (L = 8 * n + 8 ∧ T = 6 * n ∧ 1 ≤ n ∧ n ≤ 32) := ⟨hL, hT, hn, hn'⟩
  have HO : Hid (Own w.heap.size (w.alloc (.cells #[] 5)) (.slice (some ⟨w.heap.size, 0, none⟩) 0 0) []) := Own.empty w (Nat.le_refl _)
  have B0 : Below w.heap.size w (w.alloc (.cells #[] 5)) := (Below.refl _ _).alloc (Nat.le_refl _) _
  have z0 := B0.size
  have V0 : Hid (Byt (w.alloc (.cells #[] 5)) (.slice bo L bc) c) := HV.out.below B0
  clear hL hT
  go_enter Try.func15, Try.ntmps15
  go_wp2_with (at_builtin; refine pushs_lawG _ rfl (.tmp 14) (.tmp 15) rfl w.heap.size z0 _ _ [] c rfl rfl HO.out V0.out (by simp) (by have := HBL.out; omega) ?_; intro v2 w2 o2 B2; rw [List.nil_append] at o2; have Y2 : Hid (Byt w2 v2 (R 0)) := (by show Byt _ _ _; rw [HR0.out]; exact o2.byt HC.out); clear o2)
  have BW : Hid (Below w.heap.size w w2) := B0.trans B2
  clear B0 B2 z0 HO V0 HV
  go_loopw [10, 8] (fun i o wr => ∃ k : Nat, k ≤ T ∧ i = .int .i64 ((T - k : Nat) : Int) ∧ Byt wr o (R k) ∧ Below w.heap.size w wr) (fun i _ _ => (intOf i).toNat)
  case atStart => exact ⟨0, Nat.zero_le _, rfl, Y2.out, BW.out⟩
  case round =>
    obtain ⟨k, hk, rfl, hY, hB⟩ := hrel
    obtain ⟨wa, rfl⟩ : ∃ wx, wx = wr := ⟨_, rfl⟩
    have HY : Hid (Byt wa u8 (R k)) := hY
    have HB : Hid (Below w.heap.size w wa) := hB
    obtain ⟨j, hj⟩ : ∃ j, j = T - k := ⟨_, rfl⟩
    have HJ : Hid (j = T - k) := hj
    rw [← hj]
    clear hY hB hj
    have LK : Hid ((R k).length = L) := HL.out k
    by_cases hlt : k < T
    · have k1 : (j : Int) ≥ 1 := by have := HJ.out; omega
      have q3 : IntKind.i64.wrap ((j : Int) - 1) = (j : Int) - 1 := by rw [IntKind.wrap_i64]; have := HJ.out; omega
      obtain ⟨r, hr, hm, hp⟩ := HPM.out k hlt
      obtain ⟨S0, S1, E, A, M, X1, D, l0, l1, aI, lE, e1, eA, eX, eM, eD, lA, lM, lX, lD, eR, aR, cE, cM⟩ := SK.out k
      have PB : Hid (8 ≤ px k ∧ px k + 8 ≤ L) := HPB.out k
      generalize px k = p at *
      have q8 : ((j : Int) - 1).tmod (n : Int) = (r : Int) := by rw [HJ.out]; exact hm
      have q5 : IntKind.i64.wrap (r : Int) = (r : Int) := by rw [IntKind.wrap_i64]; omega
      have q6 : IntKind.i64.wrap ((r : Int) + 1) = (r : Int) + 1 := by rw [IntKind.wrap_i64]; omega
      have q7 : IntKind.i64.wrap (8 * ((r : Int) + 1)) = (p : Int) := by rw [IntKind.wrap_i64]; omega
      have CE : Hid (∀ w' kv bv tv, Byt w' kv key → Byt w' bv (S0 ++ S1) → Byt w' tv tab → Calls Try.prog 24 #[kv, bv, tv] w' fun e w'' => ∃ v', e = .returned v' ∧ Byt w'' v' E ∧ Below w'.heap.size w' w'') := cE
      have CM : Hid (∀ w' v, Byt w' v ((R k).take 8) → Calls Try.prog 25 #[v, .int .i64 (j : Int)] w' fun e w'' => ∃ v', e = .returned v' ∧ Own w'.heap.size w'' v' S0 ∧ Below w'.heap.size w' w'') := by rw [HJ.out]; exact cM
      have HE1 : Hid (((R k).take (p + 8)).drop p = S1) := e1
      have HEA : Hid (E.take 8 = A) := eA
      have HEX : Hid (E.drop 8 = X1) := eX
      have HEM : Hid (((R k).take p).drop 8 = M) := eM
      have HED : Hid ((R k).drop (p + 8) = D) := eD
      have HER : Hid (R (k + 1) = A ++ M ++ X1 ++ D) := eR
      have HAR : Hid (AllB (R (k + 1))) := aR
      have LS : Hid (S0.length = 8 ∧ S1.length = 8 ∧ E.length = 16 ∧ A.length = 8 ∧ M.length ≤ 1000 ∧ X1.length = 8 ∧ D.length ≤ 1000) := ⟨l0, l1, lE, lA, lM, lX, lD⟩
      have HAI : Hid (AllB (S0 ++ S1)) := aI
      clear e1 eA eX eM eD eR aR l0 l1 lE lA lM lX lD aI cE cM hp hr hm
      have p1 := (PB.out).1
      have p2 := (PB.out).2
      have d4 : IntKind.i64.wrap ((p : Int) + 8) = (p : Int) + 8 := by rw [IntKind.wrap_i64]; omega
      go_wp2
      refine wp_region_any (by kernel_rfl) ?_
      change wpAny _ _ _ _ _ _ _ (World.drew _)
      obtain ⟨wd, hwd⟩ : ∃ x, x = World.drew wa := ⟨_, rfl⟩
      have YD : Hid (Byt wd u8 (R k)) := by rw [hwd]; exact HY.out.below (Below.refl _ _).drew
      have BD : Hid (Below w.heap.size w wd) := by rw [hwd]; exact HB.out.drew
      have KD : Hid (Byt wd kv key) := by rw [hwd]; exact (HK.out.below HB.out).below (Below.refl _ _).drew
      have TD : Hid (Byt wd tv tab) := by rw [hwd]; exact (HT.out.below HB.out).below (Below.refl _ _).drew
      rw [← hwd]
      clear hwd
      refine take_lawG 0 (some 33) (kv) rfl rfl (by kernel_rfl) (by kernel_rfl) (by kernel_rfl) (fun _ _ _ h => h) (Or.inl ⟨by rfl, fun w' => by rfl⟩) ?_
      simp only [Act.put, List.setIfInBounds_toArray, List.set_cons_zero, List.set_cons_succ]
      refine take_lawG 1 (some 34) (u8) rfl rfl (by kernel_rfl) (by kernel_rfl) (by kernel_rfl) (fun _ _ _ h => h) (Or.inl ⟨by rfl, fun w' => by rfl⟩) ?_
      simp only [Act.put, List.setIfInBounds_toArray, List.set_cons_zero, List.set_cons_succ]
      refine take_lawG 2 (some 35) (sl u8 0 8) rfl rfl (by kernel_rfl) (by kernel_rfl) (by kernel_rfl) (fun _ _ _ h => h) (y_to (by rfl) (.tmp 34) (.const (.int .i64 8)) rfl u8 (R k) wd YD.out 8 8 rfl rfl rfl (by have := LK.out; omega)) ?_
      simp only [Act.put, List.setIfInBounds_toArray, List.set_cons_zero, List.set_cons_succ]
      refine take_lawG 3 (some 36) (.int .i64 (j : Int)) rfl rfl (by kernel_rfl) (by kernel_rfl) (by kernel_rfl) (fun _ _ _ h => h) (Or.inl ⟨by rfl, fun w' => by rfl⟩) ?_
      simp only [Act.put, List.setIfInBounds_toArray, List.set_cons_zero, List.set_cons_succ]
      refine take_lawG 5 (some 38) (u8) rfl rfl (by kernel_rfl) (by kernel_rfl) (by kernel_rfl) (fun _ _ _ h => h) (Or.inl ⟨by rfl, fun w' => by rfl⟩) ?_
      simp only [Act.put, List.setIfInBounds_toArray, List.set_cons_zero, List.set_cons_succ]
      refine take_lawG 6 (some 39) (.int .i64 (p : Int)) rfl rfl (by kernel_rfl) (by kernel_rfl) (by kernel_rfl) (fun _ _ _ h => h) (Or.inl ⟨by rfl, fun w' => by rfl⟩) ?_
      simp only [Act.put, List.setIfInBounds_toArray, List.set_cons_zero, List.set_cons_succ]
      refine take_lawG 7 (some 40) (.int .i64 (p : Int)) rfl rfl (by kernel_rfl) (by kernel_rfl) (by kernel_rfl) (fun _ _ _ h => h) (Or.inl ⟨by rfl, fun w' => by rfl⟩) ?_
      simp only [Act.put, List.setIfInBounds_toArray, List.set_cons_zero, List.set_cons_succ]
      refine take_lawG 8 (some 41) (.int .i64 ((p : Int) + 8)) rfl rfl (by kernel_rfl) (by kernel_rfl) (by kernel_rfl) (fun _ _ _ h => h) (y_add (by rfl) (.tmp 40) (.const (.int .i64 8)) rfl (p : Int) 8 _ rfl rfl d4) ?_
      simp only [Act.put, List.setIfInBounds_toArray, List.set_cons_zero, List.set_cons_succ]
      refine take_lawG 9 (some 42) (sl u8 p (p + 8)) rfl rfl (by kernel_rfl) (by kernel_rfl) (by kernel_rfl) (fun _ _ _ h => h) (y_part (by rfl) (.tmp 38) (.tmp 39) (.tmp 41) rfl u8 (R k) wd YD.out (p : Int) ((p : Int) + 8) p (p + 8) rfl rfl rfl rfl (by omega) (by omega) (by have := LK.out; omega)) ?_
      simp only [Act.put, List.setIfInBounds_toArray, List.set_cons_zero, List.set_cons_succ]
      refine take_lawG 11 (some 44) (tv) rfl rfl (by kernel_rfl) (by kernel_rfl) (by kernel_rfl) (fun _ _ _ h => h) (Or.inl ⟨by rfl, fun w' => by rfl⟩) ?_
      simp only [Act.put, List.setIfInBounds_toArray, List.set_cons_zero, List.set_cons_succ]
      refine wpAny_ready (rs := [4]) (by kernel_rfl) (by simp) ?_
      refine AllReady.cons rfl (fun K hK => ?_) AllReady.nil
      refine step_callW _ (by rfl) (some 37) rfl 25 #[.tmp 35, .tmp 36] #[22, 3] rfl (fun q w' => by rfl) #[sl u8 0 8, .int .i64 (j : Int)] (by simp only [List.map_toArray, List.map_cons, List.map_nil]; rfl) _ (CM.out _ _ (sl_to YD.out 8 (by have := LK.out; omega))) ?_
      rintro v4 w4 ⟨o4, B4⟩
      refine hK _ _ ?_
      simp only [Act.put, List.setIfInBounds_toArray, List.set_cons_zero, List.set_cons_succ]
      clear hK K
      have O4 : Hid (Own wd.heap.size w4 v4 S0) := o4
      have Q4 : Hid (Below wd.heap.size wd w4) := B4
      have s4 := B4.size
      clear o4 B4
      refine wpAny_ready (rs := [10]) (by kernel_rfl) (by simp) ?_
      refine AllReady.cons rfl (fun K hK => ?_) AllReady.nil
      refine step_pushs _ rfl (some 43) rfl (.tmp 37) (.tmp 42) rfl wd.heap.size s4 v4 (sl u8 p (p + 8)) S0 S1 rfl rfl O4.out (by rw [← HE1.out]; exact sl_byt (YD.out.below Q4.out) p (p + 8) (by omega) (by have := LK.out; omega)) (by have := LS.out; omega) (by have := LS.out; omega) fun v5 w5 o5 B5 => hK _ _ ?_
      simp only [Act.put, List.setIfInBounds_toArray, List.set_cons_zero, List.set_cons_succ]
      clear hK K
      have O5 : Hid (Byt w5 v5 (S0 ++ S1)) := o5.byt HAI.out
      have Q5 : Hid (Below wd.heap.size wd w5) := Q4.out.trans B5
      clear o5 B5 O4 Q4 s4
      refine wpAny_ready (rs := [12]) (by kernel_rfl) (by simp) ?_
      refine AllReady.cons rfl (fun K hK => ?_) AllReady.nil
      refine step_callW _ (by rfl) (some 45) rfl 24 #[.tmp 33, .tmp 43, .tmp 44] #[22, 22, 22] rfl (fun q w' => by rfl) #[kv, v5, tv] (by simp only [List.map_toArray, List.map_cons, List.map_nil]; rfl) _ (CE.out _ _ _ _ (KD.out.below Q5.out) O5.out (TD.out.below Q5.out)) ?_
      rintro v6 w6 ⟨y6, B6⟩
      refine hK _ _ ?_
      simp only [Act.put, List.setIfInBounds_toArray, List.set_cons_zero, List.set_cons_succ]
      clear hK K
      have Y6 : Hid (Byt w6 v6 E) := y6
      have Q6 : Hid (Below wd.heap.size wd w6) := Q5.out.trans (B6.mono Q5.out.size)
      have YU6 : Hid (Byt w6 u8 (R k)) := YD.out.below Q6.out
      have BW6 : Hid (Below w.heap.size w w6) := BD.out.trans (Q6.out.mono BD.out.size)
      clear y6 B6 O5 Q5 Q6 YD BD KD TD
      refine wpAny_ready (rs := [13]) (by kernel_rfl) (by simp) ?_
      refine AllReady.cons rfl (fun K hK => ?_) AllReady.nil
      refine step_movG _ rfl (some 12) rfl (.tmp 45) rfl v6 rfl (hK _ _ ?_)
      simp only [Act.put, List.setIfInBounds_toArray, List.set_cons_zero, List.set_cons_succ]
      clear hK K
      refine wpAny_done (by kernel_rfl) ?_ _
      go_wp2
      refine wp_region_any (by kernel_rfl) ?_
      change wpAny _ _ _ _ _ _ _ (World.drew _)
      obtain ⟨we, hwd⟩ : ∃ x, x = World.drew w6 := ⟨_, rfl⟩
      have YD : Hid (Byt we u8 (R k)) := by rw [hwd]; exact YU6.out.below (Below.refl _ _).drew
      have XD : Hid (Byt we v6 E) := by rw [hwd]; exact Y6.out.below (Below.refl _ _).drew
      have BD : Hid (Below w.heap.size w we) := by rw [hwd]; exact BW6.out.drew
      rw [← hwd]
      clear hwd
      clear YU6 Y6 BW6
      refine take_lawG 1 (some 47) (v6) rfl rfl (by kernel_rfl) (by kernel_rfl) (by kernel_rfl) (fun _ _ _ h => h) (Or.inl ⟨by rfl, fun w' => by rfl⟩) ?_
      simp only [Act.put, List.setIfInBounds_toArray, List.set_cons_zero, List.set_cons_succ]
      refine take_lawG 2 (some 48) (sl v6 0 8) rfl rfl (by kernel_rfl) (by kernel_rfl) (by kernel_rfl) (fun _ _ _ h => h) (y_to (by rfl) (.tmp 47) (.const (.int .i64 8)) rfl v6 E we XD.out 8 8 rfl rfl rfl (by have := LS.out; omega)) ?_
      simp only [Act.put, List.setIfInBounds_toArray, List.set_cons_zero, List.set_cons_succ]
      refine take_lawG 4 (some 50) (u8) rfl rfl (by kernel_rfl) (by kernel_rfl) (by kernel_rfl) (fun _ _ _ h => h) (Or.inl ⟨by rfl, fun w' => by rfl⟩) ?_
      simp only [Act.put, List.setIfInBounds_toArray, List.set_cons_zero, List.set_cons_succ]
      refine take_lawG 5 (some 51) (.int .i64 (p : Int)) rfl rfl (by kernel_rfl) (by kernel_rfl) (by kernel_rfl) (fun _ _ _ h => h) (Or.inl ⟨by rfl, fun w' => by rfl⟩) ?_
      simp only [Act.put, List.setIfInBounds_toArray, List.set_cons_zero, List.set_cons_succ]
      refine take_lawG 6 (some 52) (sl u8 8 p) rfl rfl (by kernel_rfl) (by kernel_rfl) (by kernel_rfl) (fun _ _ _ h => h) (y_part (by rfl) (.tmp 50) (.const (.int .i64 8)) (.tmp 51) rfl u8 (R k) we YD.out 8 (p : Int) 8 p rfl rfl rfl rfl rfl (by omega) (by have := LK.out; omega)) ?_
      simp only [Act.put, List.setIfInBounds_toArray, List.set_cons_zero, List.set_cons_succ]
      refine wpAny_ready (rs := [0]) (by kernel_rfl) (by simp) ?_
      refine AllReady.cons rfl (fun K hK => ?_) AllReady.nil
      refine step_nil _ rfl (some 46) rfl rfl fun v3 w3 o3 B3 => hK _ _ ?_
      simp only [Act.put, List.setIfInBounds_toArray, List.set_cons_zero, List.set_cons_succ]
      clear hK K
      have O3 : Hid (Own we.heap.size w3 v3 []) := o3
      have Q3 : Hid (Below we.heap.size we w3) := B3
      have s3 := B3.size
      clear o3 B3
      refine wpAny_ready (rs := [3]) (by kernel_rfl) (by simp) ?_
      refine AllReady.cons rfl (fun K hK => ?_) AllReady.nil
      refine step_pushs _ rfl (some 49) rfl (.tmp 46) (.tmp 48) rfl we.heap.size s3 v3 (sl v6 0 8) [] A rfl rfl O3.out (by rw [← HEA.out]; exact sl_to (XD.out.below Q3.out) 8 (by have := LS.out; omega)) (by simp) (by have := LS.out; omega) fun v7 w7 o7 B7 => hK _ _ ?_
      simp only [Act.put, List.setIfInBounds_toArray, List.set_cons_zero, List.set_cons_succ]
      clear hK K
      rw [List.nil_append] at o7
      have O7 : Hid (Own we.heap.size w7 v7 A) := o7
      have Q7 : Hid (Below we.heap.size we w7) := Q3.out.trans B7
      have s7 := Q7.out.size
      clear o7 B7 O3 Q3 s3
      refine wpAny_ready (rs := [7]) (by kernel_rfl) (by simp) ?_
      refine AllReady.cons rfl (fun K hK => ?_) AllReady.nil
      refine step_pushs _ rfl (some 53) rfl (.tmp 49) (.tmp 52) rfl we.heap.size s7 v7 (sl u8 8 p) A M rfl rfl O7.out (by rw [← HEM.out]; exact sl_byt (YD.out.below Q7.out) 8 p (by omega) (by have := LK.out; omega)) (by have := LS.out; omega) (by have := LS.out; omega) fun v8 w8 o8 B8 => hK _ _ ?_
      simp only [Act.put, List.setIfInBounds_toArray, List.set_cons_zero, List.set_cons_succ]
      clear hK K
      have O8 : Hid (Own we.heap.size w8 v8 (A ++ M)) := o8
      have Q8 : Hid (Below we.heap.size we w8) := Q7.out.trans B8
      have s8 := Q8.out.size
      clear o8 B8 O7 Q7 s7
      refine wpAny_ready (rs := [8]) (by kernel_rfl) (by simp) ?_
      refine AllReady.cons rfl (fun K hK => ?_) AllReady.nil
      refine step_movG _ rfl (some 13) rfl (.tmp 53) rfl v8 rfl (hK _ _ ?_)
      simp only [Act.put, List.setIfInBounds_toArray, List.set_cons_zero, List.set_cons_succ]
      clear hK K
      refine wpAny_done (by kernel_rfl) ?_ _
      have r0 : True := trivial
      have r1 : True := trivial
      have r2 : True := trivial
      have r3 : True := trivial
      go_wp2_with (first
        | (have q := r0; refine cut_from _ rfl (.tmp 55) (.const (.int .i64 8)) rfl v6 E 8 8 rfl rfl rfl (by have := LS.out; omega) (XD.out.below Q8.out) ?_; intro v9 y9; rw [HEX.out] at y9; have Y9 : Hid (Byt w8 v9 X1) := y9; clear y9 r0 q)
        | (at_builtin; have q := r1; refine pushs_lawG _ rfl (.tmp 54) (.tmp 56) rfl we.heap.size s8 v8 v9 (A ++ M) X1 rfl rfl O8.out Y9.out (by have := LS.out; rw [List.length_append]; omega) (by have := LS.out; omega) ?_; intro v10 w10 o10 B10; have O10 : Hid (Own we.heap.size w10 v10 (A ++ M ++ X1)) := o10; have Q10 : Hid (Below we.heap.size we w10) := Q8.out.trans B10; have s10 := Q10.out.size; clear o10 B10 r1 q)
        | (have q := r2; refine cut_from _ rfl (.tmp 59) (.tmp 61) rfl u8 (R k) ((p : Int) + 8) (p + 8) rfl rfl rfl (by have := LK.out; omega) (YD.out.below Q10.out) ?_; intro v11 y11; rw [HED.out] at y11; have Y11 : Hid (Byt w10 v11 D) := y11; clear y11 r2 q)
        | (at_builtin; have q := r3; refine pushs_lawG _ rfl (.tmp 58) (.tmp 62) rfl we.heap.size s10 v10 v11 (A ++ M ++ X1) D rfl rfl O10.out Y11.out (by have := LS.out; rw [List.length_append, List.length_append]; omega) (by have := LS.out; omega) ?_; intro v12 w12 o12 B12; have O12 : Hid (Own we.heap.size w12 v12 (A ++ M ++ X1 ++ D)) := o12; have Q12 : Hid (Below we.heap.size we w12) := Q10.out.trans B12; clear o12 B12 r3 q))
      go_roundw
      case rel => exact ⟨k + 1, by omega, by have := HJ.out; rw [show ((T - (k + 1) : Nat) : Int) = (j : Int) - 1 by omega], by rw [HER.out]; exact O12.out.byt (by rw [← HER.out]; exact HAR.out), BD.out.trans (Q12.out.mono BD.out.size)⟩
      case measure => have := HJ.out; simp [intOf]; omega
    · have hkn : k = T := by omega
      subst hkn
      have k1 : ¬ ((j : Int) ≥ 1) := by have := HJ.out; omega
      have HWZ : Hid (Z = R k) := HW.out
      go_wp2
      refine wp_region_any (by kernel_rfl) ?_
      change wpAny _ _ _ _ _ _ _ (World.drew _)
      obtain ⟨wd, hwd⟩ : ∃ x, x = World.drew wa := ⟨_, rfl⟩
      have YD : Hid (Byt wd u8 (R k)) := by rw [hwd]; exact HY.out.below (Below.refl _ _).drew
      have BD : Hid (Below w.heap.size w wd) := by rw [hwd]; exact HB.out.drew
      rw [← hwd]
      clear hwd
      refine take_lawG 0 (some 65) (u8) rfl rfl (by kernel_rfl) (by kernel_rfl) (by kernel_rfl) (fun _ _ _ h => h) (Or.inl ⟨by rfl, fun w' => by rfl⟩) ?_
      simp only [Act.put, List.setIfInBounds_toArray, List.set_cons_zero, List.set_cons_succ]
      refine take_lawG 1 (some 66) (sl u8 8 (R k).length) rfl rfl (by kernel_rfl) (by kernel_rfl) (by kernel_rfl) (fun _ _ _ h => h) (y_from (by rfl) (.tmp 65) (.const (.int .i64 8)) rfl u8 (R k) wd YD.out 8 8 rfl rfl rfl (by have := LK.out; omega)) ?_
      simp only [Act.put, List.setIfInBounds_toArray, List.set_cons_zero, List.set_cons_succ]
      refine take_lawG 2 (some 67) (u8) rfl rfl (by kernel_rfl) (by kernel_rfl) (by kernel_rfl) (fun _ _ _ h => h) (Or.inl ⟨by rfl, fun w' => by rfl⟩) ?_
      simp only [Act.put, List.setIfInBounds_toArray, List.set_cons_zero, List.set_cons_succ]
      refine take_lawG 3 (some 68) (sl u8 0 8) rfl rfl (by kernel_rfl) (by kernel_rfl) (by kernel_rfl) (fun _ _ _ h => h) (y_to (by rfl) (.tmp 67) (.const (.int .i64 8)) rfl u8 (R k) wd YD.out 8 8 rfl rfl rfl (by have := LK.out; omega)) ?_
      simp only [Act.put, List.setIfInBounds_toArray, List.set_cons_zero, List.set_cons_succ]
      refine wpAny_ready (rs := [4]) (by kernel_rfl) (by simp) ?_
      refine AllReady.cons rfl (fun K hK => ?_) AllReady.nil
      refine step_callW _ (by rfl) (some 69) rfl 26 #[.const (.int .u8 166), .const (.int .i64 8)] #[5, 3] rfl (fun q w' => by rfl) #[.int .u8 166, .int .i64 8] (by simp only [List.map_toArray, List.map_cons, List.map_nil]; rfl) _ (SF.out _) ?_
      rintro v4 w4 ⟨y4, B4⟩
      refine hK _ _ ?_
      simp only [Act.put, List.setIfInBounds_toArray, List.set_cons_zero, List.set_cons_succ]
      clear hK K
      have Y4 : Hid (Byt w4 v4 a6) := y4
      have Q4 : Hid (Below wd.heap.size wd w4) := B4
      clear y4 B4
      refine wpAny_ready (rs := [5]) (by kernel_rfl) (by simp) ?_
      refine AllReady.cons rfl (fun K hK => ?_) AllReady.nil
      refine step_callD _ rfl (some 70) rfl 13 #[.tmp 68, .tmp 69] #[22, 22] rfl (fun q w' => by rfl) #[sl u8 0 8, v4] (by simp only [List.map_toArray, List.map_cons, List.map_nil]; rfl) (.bool (decide ((R k).take 8 = a6))) _ (same_any _ _ _ _ _ (sl_to (YD.out.below Q4.out) 8 (by have := LK.out; omega)) Y4.out) ?_
      rintro w5 ⟨nn, hw5⟩
      refine hK _ _ ?_
      simp only [Act.put, List.setIfInBounds_toArray, List.set_cons_zero, List.set_cons_succ]
      clear hK K
      have Q5 : Hid (Below wd.heap.size wd w5) := by rw [hw5]; exact below_drawn Q4.out nn
      clear hw5
      refine wpAny_ready (rs := [6]) (by kernel_rfl) (by simp) ?_
      refine AllReady.cons rfl (fun K hK => ?_) AllReady.nil
      refine step_movG _ rfl (some 6) rfl (.tmp 66) rfl (sl u8 8 (R k).length) rfl (hK _ _ ?_)
      simp only [Act.put, List.setIfInBounds_toArray, List.set_cons_zero, List.set_cons_succ]
      clear hK K
      refine wpAny_ready (rs := [7]) (by kernel_rfl) (by simp) ?_
      refine AllReady.cons rfl (fun K hK => ?_) AllReady.nil
      refine step_movG _ rfl (some 7) rfl (.tmp 70) rfl (.bool (decide ((R k).take 8 = a6))) rfl (hK _ _ ?_)
      simp only [Act.put, List.setIfInBounds_toArray, List.set_cons_zero, List.set_cons_succ]
      clear hK K
      refine wpAny_done (by kernel_rfl) ?_ _
      go_wp2
      go_ret2
      exact ⟨_, by rw [HWZ.out]; rfl, by rw [HWZ.out]; exact sl_from (YD.out.below Q5.out) 8 (by have := LK.out; omega), BD.out.trans (Q5.out.mono BD.out.size)⟩
end Go.Proofs.Ytifepmdhbhdjpaa.wr

