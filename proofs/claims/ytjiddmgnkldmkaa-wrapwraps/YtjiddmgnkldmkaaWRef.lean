/- What the reference's Wrap of layer 10 answer. No claim of its own. -/
import Derived.Test.YtjiddmgnkldmkaaWStep
namespace Go.Proofs.Ytjiddmgnkldmkaa.wr
open Go.RowKit

set_option linter.unusedSimpArgs false in
set_option maxRecDepth 20000 in
set_option maxHeartbeats 4000000 in
theorem rwrap_any (kv bv tv : Value) (key b : List Int) (n : Nat) (w : World) (hk : Byt w kv key) (hkl : key.length = 32) (hb : Byt w bv b) (hbl : b.length = 8 * n) (hn : 1 ≤ n) (hn' : n ≤ 32) (ht : Byt w tv ptab) :
    Calls Try.prog 11 #[kv, bv, tv] w fun e w' => ∃ v', e = .returned v' ∧ Byt w' v' (wrapped key b n) ∧ Below w.heap.size w w' := by
  have hka := hk.all
  have fit : ∀ k, Fit (8 * n + 8) (ws key n (a6 ++ b) k) := fun k => ws_fit key hkl hka n (by omega) _ (a6_fit b n hbl hb.all) k
  have SF : Hid (∀ w, Calls Try.prog 21 #[.int .u8 166, .int .i64 8] w fun e w' => ∃ v, e = .returned v ∧ Own w.heap.size w' v a6 ∧ Below w.heap.size w w') := fun w => by
    have := rfill_own 166 8 w
    rw [show clamp 8 65536 = 8 by unfold clamp; omega] at this
    exact this
  have SK : Hid (∀ k, ∃ S0 S1 E A M X1 D : List Int, S0.length = 8 ∧ S1.length = 8 ∧ AllB (S0 ++ S1) ∧ E.length = 16 ∧ (ws key n (a6 ++ b) k).take 8 = S0 ∧ ((ws key n (a6 ++ b) k).take (ix n (k + 1) + 8)).drop (ix n (k + 1)) = S1 ∧ E.drop 8 = X1 ∧ ((ws key n (a6 ++ b) k).take (ix n (k + 1))).drop 8 = M ∧ (ws key n (a6 ++ b) k).drop (ix n (k + 1) + 8) = D ∧ A.length = 8 ∧ M.length ≤ 1000 ∧ X1.length = 8 ∧ D.length ≤ 1000 ∧ ws key n (a6 ++ b) (k + 1) = A ++ M ++ X1 ++ D ∧ AllB (ws key n (a6 ++ b) (k + 1)) ∧
      (∀ w' kv bv tv, Byt w' kv key → Byt w' bv (S0 ++ S1) → Byt w' tv ptab → Calls Try.prog 22 #[kv, bv, tv] w' fun e w'' => ∃ v', e = .returned v' ∧ Byt w'' v' E ∧ Below w'.heap.size w' w'') ∧
      (k < 6 * n → ∀ w' v, Byt w' v (E.take 8) → Calls Try.prog 23 #[v, .int .i64 ((k + 1 : Nat) : Int)] w' fun e w'' => ∃ v', e = .returned v' ∧ Own w'.heap.size w'' v' A ∧ Below w'.heap.size w' w'')) := fun k => by
    have hf := fit k
    have hbd := ix_bd n (k + 1) (by omega)
    have hin := in_blk _ _ _ hf hbd.1 hbd.2
    have hX := encr_blk key hkl hka _ hin
    have hh := half _ hX
    have hxb := xb _ (k + 1) hh.1.1 hh.1.2
    have hl := hf.1
    refine ⟨_, _, encr key (hd (ws key n (a6 ++ b) k) ++ pt (ws key n (a6 ++ b) k) (ix n (k + 1))), xorl ((encr key (hd (ws key n (a6 ++ b) k) ++ pt (ws key n (a6 ++ b) k) (ix n (k + 1)))).take 8) (b8 (k + 1)), _, _, _, hd_len _ (by omega), pt_len _ _ (by omega), hin.2, hX.1, rfl, rfl, rfl, rfl, rfl, hxb.1, ?_, hh.2.1, ?_, rfl, (fit (k + 1)).2, fun w' kv bv tv h1 h2 h3 => rencrypt_any kv bv tv key _ w' h1 hkl h2 hin.1 h3, fun hk w' v h => rmixed8_any v _ (k + 1) w' h hh.1.1 (by omega)⟩
    · rw [mid_len _ _ (by omega)]; omega
    · rw [List.length_drop]; omega
  have HW : Hid (wrapped key b n = ws key n (a6 ++ b) (6 * n)) := rfl
  have HR0 : Hid (ws key n (a6 ++ b) 0 = a6 ++ b) := rfl
  have HL : Hid (∀ k, (ws key n (a6 ++ b) k).length = 8 * n + 8) := fun k => (fit k).1
  have H0A : Hid (AllB (ws key n (a6 ++ b) 0)) := (fit 0).2
  have HK : Hid (Byt w kv key) := hk
  have HT : Hid (Byt w tv ptab) := ht
  have HV : Hid (Byt w bv b) := hb
  have HPB : Hid (∀ k, 8 ≤ ix n (k + 1) ∧ ix n (k + 1) + 8 ≤ 8 * n + 8) := fun k => ix_bd n (k + 1) (by omega)
  have HPM : Hid (∀ k : Nat, ∃ r : Nat, r < n ∧ (k : Int).tmod (n : Int) = (r : Int) ∧ ix n (k + 1) = 8 * r + 8) := fun k => ⟨k % n, Nat.mod_lt _ (by omega), by rw [Int.tmod_eq_emod_of_nonneg (by omega)]; rfl, by unfold ix; rw [Nat.add_sub_cancel]; omega⟩
  clear hk hka ht fit hkl
  obtain ⟨R, hR⟩ : ∃ R : Nat → List Int, R = ws key n (a6 ++ b) := ⟨_, rfl⟩
  obtain ⟨px, hpx⟩ : ∃ px : Nat → Nat, px = fun k => ix n (k + 1) := ⟨_, rfl⟩
  have ep : ∀ k, ix n (k + 1) = px k := fun k => by rw [hpx]
  simp only [ep] at SK HPB HPM
  rw [← hR] at HW HR0 HL SK H0A
  clear hR hpx ep
  generalize wrapped key b n = Z at *
  generalize ptab = tab at *
  obtain ⟨bo, bc, rfl, hb1, hb2, -, -, -⟩ := hb
  have HBL : Hid (b.length ≤ 1000) := by show _ ≤ _; omega
  rw [hbl] at hb1 HV ⊢
  clear hbl
  obtain ⟨m, hm⟩ : ∃ m, m = 8 * n := ⟨_, rfl⟩
  obtain ⟨L, hL⟩ : ∃ L, L = 8 * n + 8 := ⟨_, rfl⟩
  obtain ⟨T, hT⟩ : ∃ T, T = 6 * n := ⟨_, rfl⟩
  rw [← hm] at HV hb1 ⊢
  rw [← hL] at HL HPB
  rw [← hT] at HW SK
  have d1 : (m : Int).tdiv 8 = (n : Int) := by rw [Int.tdiv_eq_ediv_of_nonneg (by omega)]; omega
  have d2 : IntKind.i64.wrap (n : Int) = (n : Int) := by rw [IntKind.wrap_i64]; omega
  have k6 : IntKind.i64.wrap (6 * (n : Int)) = (T : Int) := by rw [IntKind.wrap_i64]; omega
  have n0 : ¬ ((n : Int) = 0) := by omega
  have L0 : 16 ≤ L ∧ L ≤ 264 := by omega
  have T0 : T ≤ 192 := by omega
  have HLN : Hid (L = 8 * n + 8 ∧ T = 6 * n ∧ 1 ≤ n ∧ n ≤ 32) := ⟨hL, hT, hn, hn'⟩
  clear hm hL hT
  go_enter Try.func11, Try.ntmps11
  go_wp2_with (first
    | (at_builtin; have q := s1; refine pushs_lawG _ rfl (.tmp 13) (.tmp 14) rfl w.heap.size s1 v1 _ a6 b rfl rfl O1.out (HV.out.below B1) (by rw [a6_len]; omega) (by have := HBL.out; omega) ?_; intro v2 w2 o2 B2; have Y2 : Hid (Byt w2 v2 (R 0)) := (by show Byt _ _ _; rw [HR0.out]; exact o2.byt (by rw [← HR0.out]; exact H0A.out)); clear o2)
    | (go_at_call 21; refine (SF.out _).mono ?_; rintro e w1 ⟨v1, rfl, o1, B1⟩; have O1 : Hid (Own w.heap.size w1 v1 a6) := o1; have s1 := B1.size; clear o1))
  have BW : Hid (Below w.heap.size w w2) := B1.trans B2
  clear B1 B2 s1 O1 HV SF
  go_loopw [9, 7] (fun i o wr => ∃ k : Nat, k ≤ T ∧ i = .int .i64 ((k + 1 : Nat) : Int) ∧ Byt wr o (R k) ∧ Below w.heap.size w wr) (fun i _ _ => T + 1 - (intOf i).toNat)
  case atStart => exact ⟨0, Nat.zero_le _, rfl, Y2.out, BW.out⟩
  case round =>
    obtain ⟨k, hk, rfl, hY, hB⟩ := hrel
    obtain ⟨wa, rfl⟩ : ∃ wx, wx = wr := ⟨_, rfl⟩
    have HY : Hid (Byt wa u7 (R k)) := hY
    have HB : Hid (Below w.heap.size w wa) := hB
    obtain ⟨j, hj⟩ : ∃ j, j = k + 1 := ⟨_, rfl⟩
    have HJ : Hid (j = k + 1) := hj
    rw [← hj]
    clear hY hB hj
    by_cases hlt : k < T
    · have k1 : (j : Int) ≤ (T : Int) := by have := HJ.out; omega
      have q3 : IntKind.i64.wrap ((j : Int) + 1) = (j : Int) + 1 := by rw [IntKind.wrap_i64]; have := HJ.out; omega
      have q4 : IntKind.i64.wrap ((j : Int) - 1) = (k : Int) := by rw [IntKind.wrap_i64]; have := HJ.out; omega
      obtain ⟨r, hr, hm, hp⟩ := HPM.out k
      obtain ⟨S0, S1, E, A, M, X1, D, l0, l1, aI, lE, e0, e1, eX, eM, eD, lA, lM, lX, lD, eR, aR, cE, cM⟩ := SK.out k
      have PB : Hid (8 ≤ px k ∧ px k + 8 ≤ L) := HPB.out k
      have LK : Hid ((R k).length = L) := HL.out k
      generalize px k = p at *
      have q5 : IntKind.i64.wrap (r : Int) = (r : Int) := by rw [IntKind.wrap_i64]; omega
      have q6 : IntKind.i64.wrap ((r : Int) + 1) = (r : Int) + 1 := by rw [IntKind.wrap_i64]; omega
      have q7 : IntKind.i64.wrap (8 * ((r : Int) + 1)) = (p : Int) := by rw [IntKind.wrap_i64]; omega
      have CE : Hid (∀ w' kv bv tv, Byt w' kv key → Byt w' bv (S0 ++ S1) → Byt w' tv tab → Calls Try.prog 22 #[kv, bv, tv] w' fun e w'' => ∃ v', e = .returned v' ∧ Byt w'' v' E ∧ Below w'.heap.size w' w'') := cE
      have CM : Hid (∀ w' v, Byt w' v (E.take 8) → Calls Try.prog 23 #[v, .int .i64 (j : Int)] w' fun e w'' => ∃ v', e = .returned v' ∧ Own w'.heap.size w'' v' A ∧ Below w'.heap.size w' w'') := by rw [HJ.out]; exact cM hlt
      have HE0 : Hid ((R k).take 8 = S0) := e0
      have HE1 : Hid (((R k).take (p + 8)).drop p = S1) := e1
      have HEX : Hid (E.drop 8 = X1) := eX
      have HEM : Hid (((R k).take p).drop 8 = M) := eM
      have HED : Hid ((R k).drop (p + 8) = D) := eD
      have HER : Hid (R (k + 1) = A ++ M ++ X1 ++ D) := eR
      have HAR : Hid (AllB (R (k + 1))) := aR
      have LS : Hid (S0.length = 8 ∧ S1.length = 8 ∧ E.length = 16 ∧ A.length = 8 ∧ M.length ≤ 1000 ∧ X1.length = 8 ∧ D.length ≤ 1000) := ⟨l0, l1, lE, lA, lM, lX, lD⟩
      have HAI : Hid (AllB (S0 ++ S1)) := aI
      clear e0 e1 eX eM eD eR aR l0 l1 lE lA lM lX lD aI cE cM hp hr
      have p1 := (PB.out).1
      have p2 := (PB.out).2
      have d4 : IntKind.i64.wrap ((p : Int) + 8) = (p : Int) + 8 := by rw [IntKind.wrap_i64]; omega
      go_wp2
      refine wp_region_any (by kernel_rfl) ?_
      change wpAny _ _ _ _ _ _ _ (World.drew _)
      obtain ⟨wd, hwd⟩ : ∃ x, x = World.drew wa := ⟨_, rfl⟩
      have YD : Hid (Byt wd u7 (R k)) := by rw [hwd]; exact HY.out.below (Below.refl _ _).drew
      have BD : Hid (Below w.heap.size w wd) := by rw [hwd]; exact HB.out.drew
      have KD : Hid (Byt wd kv key) := by rw [hwd]; exact (HK.out.below HB.out).below (Below.refl _ _).drew
      have TD : Hid (Byt wd tv tab) := by rw [hwd]; exact (HT.out.below HB.out).below (Below.refl _ _).drew
      rw [← hwd]
      clear hwd
      refine take_lawG 0 (some 31) (kv) rfl rfl (by kernel_rfl) (by kernel_rfl) (by kernel_rfl) (fun _ _ _ h => h) (Or.inl ⟨by rfl, fun w' => by rfl⟩) ?_
      simp only [Act.put, List.setIfInBounds_toArray, List.set_cons_zero, List.set_cons_succ]
      refine take_lawG 2 (some 33) (u7) rfl rfl (by kernel_rfl) (by kernel_rfl) (by kernel_rfl) (fun _ _ _ h => h) (Or.inl ⟨by rfl, fun w' => by rfl⟩) ?_
      simp only [Act.put, List.setIfInBounds_toArray, List.set_cons_zero, List.set_cons_succ]
      refine take_lawG 3 (some 34) (sl u7 0 8) rfl rfl (by kernel_rfl) (by kernel_rfl) (by kernel_rfl) (fun _ _ _ h => h) (y_to (by rfl) (.tmp 33) (.const (.int .i64 8)) rfl u7 (R k) wd YD.out 8 8 rfl rfl rfl (by have := LK.out; omega)) ?_
      simp only [Act.put, List.setIfInBounds_toArray, List.set_cons_zero, List.set_cons_succ]
      refine take_lawG 5 (some 36) (u7) rfl rfl (by kernel_rfl) (by kernel_rfl) (by kernel_rfl) (fun _ _ _ h => h) (Or.inl ⟨by rfl, fun w' => by rfl⟩) ?_
      simp only [Act.put, List.setIfInBounds_toArray, List.set_cons_zero, List.set_cons_succ]
      refine take_lawG 6 (some 37) (.int .i64 (p : Int)) rfl rfl (by kernel_rfl) (by kernel_rfl) (by kernel_rfl) (fun _ _ _ h => h) (Or.inl ⟨by rfl, fun w' => by rfl⟩) ?_
      simp only [Act.put, List.setIfInBounds_toArray, List.set_cons_zero, List.set_cons_succ]
      refine take_lawG 7 (some 38) (.int .i64 (p : Int)) rfl rfl (by kernel_rfl) (by kernel_rfl) (by kernel_rfl) (fun _ _ _ h => h) (Or.inl ⟨by rfl, fun w' => by rfl⟩) ?_
      simp only [Act.put, List.setIfInBounds_toArray, List.set_cons_zero, List.set_cons_succ]
      refine take_lawG 8 (some 39) (.int .i64 ((p : Int) + 8)) rfl rfl (by kernel_rfl) (by kernel_rfl) (by kernel_rfl) (fun _ _ _ h => h) (y_add (by rfl) (.tmp 38) (.const (.int .i64 8)) rfl (p : Int) 8 _ rfl rfl d4) ?_
      simp only [Act.put, List.setIfInBounds_toArray, List.set_cons_zero, List.set_cons_succ]
      refine take_lawG 9 (some 40) (sl u7 p (p + 8)) rfl rfl (by kernel_rfl) (by kernel_rfl) (by kernel_rfl) (fun _ _ _ h => h) (y_part (by rfl) (.tmp 36) (.tmp 37) (.tmp 39) rfl u7 (R k) wd YD.out (p : Int) ((p : Int) + 8) p (p + 8) rfl rfl rfl rfl (by omega) (by omega) (by have := LK.out; omega)) ?_
      simp only [Act.put, List.setIfInBounds_toArray, List.set_cons_zero, List.set_cons_succ]
      refine take_lawG 11 (some 42) (tv) rfl rfl (by kernel_rfl) (by kernel_rfl) (by kernel_rfl) (fun _ _ _ h => h) (Or.inl ⟨by rfl, fun w' => by rfl⟩) ?_
      simp only [Act.put, List.setIfInBounds_toArray, List.set_cons_zero, List.set_cons_succ]
      refine wpAny_ready (rs := [1]) (by kernel_rfl) (by simp) ?_
      refine AllReady.cons rfl (fun K hK => ?_) AllReady.nil
      refine step_nil _ rfl (some 32) rfl rfl fun v3 w3 o3 B3 => hK _ _ ?_
      simp only [Act.put, List.setIfInBounds_toArray, List.set_cons_zero, List.set_cons_succ]
      clear hK K
      have O3 : Hid (Own wd.heap.size w3 v3 []) := o3
      have Q3 : Hid (Below wd.heap.size wd w3) := B3
      have s3 := B3.size
      clear o3 B3
      refine wpAny_ready (rs := [4]) (by kernel_rfl) (by simp) ?_
      refine AllReady.cons rfl (fun K hK => ?_) AllReady.nil
      refine step_pushs _ rfl (some 35) rfl (.tmp 32) (.tmp 34) rfl wd.heap.size s3 v3 (sl u7 0 8) [] S0 rfl rfl O3.out (by rw [← HE0.out]; exact sl_to (YD.out.below Q3.out) 8 (by have := LK.out; omega)) (by simp) (by have := LS.out; omega) fun v4 w4 o4 B4 => hK _ _ ?_
      simp only [Act.put, List.setIfInBounds_toArray, List.set_cons_zero, List.set_cons_succ]
      clear hK K
      rw [List.nil_append] at o4
      have O4 : Hid (Own wd.heap.size w4 v4 S0) := o4
      have Q4 : Hid (Below wd.heap.size wd w4) := Q3.out.trans B4
      have s4 := Q4.out.size
      clear o4 B4 O3 Q3 s3
      refine wpAny_ready (rs := [10]) (by kernel_rfl) (by simp) ?_
      refine AllReady.cons rfl (fun K hK => ?_) AllReady.nil
      refine step_pushs _ rfl (some 41) rfl (.tmp 35) (.tmp 40) rfl wd.heap.size s4 v4 (sl u7 p (p + 8)) S0 S1 rfl rfl O4.out (by rw [← HE1.out]; exact sl_byt (YD.out.below Q4.out) p (p + 8) (by omega) (by have := LK.out; omega)) (by have := LS.out; omega) (by have := LS.out; omega) fun v5 w5 o5 B5 => hK _ _ ?_
      simp only [Act.put, List.setIfInBounds_toArray, List.set_cons_zero, List.set_cons_succ]
      clear hK K
      have O5 : Hid (Byt w5 v5 (S0 ++ S1)) := o5.byt HAI.out
      have Q5 : Hid (Below wd.heap.size wd w5) := Q4.out.trans B5
      clear o5 B5 O4 Q4 s4
      refine wpAny_ready (rs := [12]) (by kernel_rfl) (by simp) ?_
      refine AllReady.cons rfl (fun K hK => ?_) AllReady.nil
      refine step_callW _ (by rfl) (some 43) rfl 22 #[.tmp 31, .tmp 41, .tmp 42] #[22, 22, 22] rfl (fun q w' => by rfl) #[kv, v5, tv] (by simp only [List.map_toArray, List.map_cons, List.map_nil]; rfl) _ (CE.out _ _ _ _ (KD.out.below Q5.out) O5.out (TD.out.below Q5.out)) ?_
      rintro v6 w6 ⟨y6, B6⟩
      refine hK _ _ ?_
      simp only [Act.put, List.setIfInBounds_toArray, List.set_cons_zero, List.set_cons_succ]
      clear hK K
      have Y6 : Hid (Byt w6 v6 E) := y6
      have Q6 : Hid (Below wd.heap.size wd w6) := Q5.out.trans (B6.mono Q5.out.size)
      have YU6 : Hid (Byt w6 u7 (R k)) := YD.out.below Q6.out
      have BW6 : Hid (Below w.heap.size w w6) := BD.out.trans (Q6.out.mono BD.out.size)
      clear y6 B6 O5 Q5 Q6 YD BD KD TD
      refine wpAny_ready (rs := [13]) (by kernel_rfl) (by simp) ?_
      refine AllReady.cons rfl (fun K hK => ?_) AllReady.nil
      refine step_movG _ rfl (some 11) rfl (.tmp 43) rfl v6 rfl (hK _ _ ?_)
      simp only [Act.put, List.setIfInBounds_toArray, List.set_cons_zero, List.set_cons_succ]
      clear hK K
      refine wpAny_done (by kernel_rfl) ?_ _
      go_wp2
      refine wp_region_any (by kernel_rfl) ?_
      change wpAny _ _ _ _ _ _ _ (World.drew _)
      obtain ⟨we, hwd⟩ : ∃ x, x = World.drew w6 := ⟨_, rfl⟩
      have YD : Hid (Byt we u7 (R k)) := by rw [hwd]; exact YU6.out.below (Below.refl _ _).drew
      have XD : Hid (Byt we v6 E) := by rw [hwd]; exact Y6.out.below (Below.refl _ _).drew
      have BD : Hid (Below w.heap.size w we) := by rw [hwd]; exact BW6.out.drew
      rw [← hwd]
      clear hwd
      clear YU6 Y6 BW6
      refine take_lawG 0 (some 44) (v6) rfl rfl (by kernel_rfl) (by kernel_rfl) (by kernel_rfl) (fun _ _ _ h => h) (Or.inl ⟨by rfl, fun w' => by rfl⟩) ?_
      simp only [Act.put, List.setIfInBounds_toArray, List.set_cons_zero, List.set_cons_succ]
      refine take_lawG 1 (some 45) (sl v6 0 8) rfl rfl (by kernel_rfl) (by kernel_rfl) (by kernel_rfl) (fun _ _ _ h => h) (y_to (by rfl) (.tmp 44) (.const (.int .i64 8)) rfl v6 E we XD.out 8 8 rfl rfl rfl (by have := LS.out; omega)) ?_
      simp only [Act.put, List.setIfInBounds_toArray, List.set_cons_zero, List.set_cons_succ]
      refine take_lawG 2 (some 46) (.int .i64 (j : Int)) rfl rfl (by kernel_rfl) (by kernel_rfl) (by kernel_rfl) (fun _ _ _ h => h) (Or.inl ⟨by rfl, fun w' => by rfl⟩) ?_
      simp only [Act.put, List.setIfInBounds_toArray, List.set_cons_zero, List.set_cons_succ]
      refine take_lawG 4 (some 48) (u7) rfl rfl (by kernel_rfl) (by kernel_rfl) (by kernel_rfl) (fun _ _ _ h => h) (Or.inl ⟨by rfl, fun w' => by rfl⟩) ?_
      simp only [Act.put, List.setIfInBounds_toArray, List.set_cons_zero, List.set_cons_succ]
      refine take_lawG 5 (some 49) (.int .i64 (p : Int)) rfl rfl (by kernel_rfl) (by kernel_rfl) (by kernel_rfl) (fun _ _ _ h => h) (Or.inl ⟨by rfl, fun w' => by rfl⟩) ?_
      simp only [Act.put, List.setIfInBounds_toArray, List.set_cons_zero, List.set_cons_succ]
      refine take_lawG 6 (some 50) (sl u7 8 p) rfl rfl (by kernel_rfl) (by kernel_rfl) (by kernel_rfl) (fun _ _ _ h => h) (y_part (by rfl) (.tmp 48) (.const (.int .i64 8)) (.tmp 49) rfl u7 (R k) we YD.out 8 (p : Int) 8 p rfl rfl rfl rfl rfl (by omega) (by have := LK.out; omega)) ?_
      simp only [Act.put, List.setIfInBounds_toArray, List.set_cons_zero, List.set_cons_succ]
      refine wpAny_ready (rs := [3]) (by kernel_rfl) (by simp) ?_
      refine AllReady.cons rfl (fun K hK => ?_) AllReady.nil
      refine step_callW _ (by rfl) (some 47) rfl 23 #[.tmp 45, .tmp 46] #[22, 3] rfl (fun q w' => by rfl) #[sl v6 0 8, .int .i64 (j : Int)] (by simp only [List.map_toArray, List.map_cons, List.map_nil]; rfl) _ (CM.out _ _ (sl_to XD.out 8 (by have := LS.out; omega))) ?_
      rintro v7 w7 ⟨o7, B7⟩
      refine hK _ _ ?_
      simp only [Act.put, List.setIfInBounds_toArray, List.set_cons_zero, List.set_cons_succ]
      clear hK K
      have O7 : Hid (Own we.heap.size w7 v7 A) := o7
      have Q7 : Hid (Below we.heap.size we w7) := B7
      have s7 := B7.size
      clear o7 B7
      refine wpAny_ready (rs := [7]) (by kernel_rfl) (by simp) ?_
      refine AllReady.cons rfl (fun K hK => ?_) AllReady.nil
      refine step_pushs _ rfl (some 51) rfl (.tmp 47) (.tmp 50) rfl we.heap.size s7 v7 (sl u7 8 p) A M rfl rfl O7.out (by rw [← HEM.out]; exact sl_byt (YD.out.below Q7.out) 8 p (by omega) (by have := LK.out; omega)) (by have := LS.out; omega) (by have := LS.out; omega) fun v8 w8 o8 B8 => hK _ _ ?_
      simp only [Act.put, List.setIfInBounds_toArray, List.set_cons_zero, List.set_cons_succ]
      clear hK K
      have O8 : Hid (Own we.heap.size w8 v8 (A ++ M)) := o8
      have Q8 : Hid (Below we.heap.size we w8) := Q7.out.trans B8
      have s8 := Q8.out.size
      clear o8 B8 O7 Q7 s7
      refine wpAny_ready (rs := [8]) (by kernel_rfl) (by simp) ?_
      refine AllReady.cons rfl (fun K hK => ?_) AllReady.nil
      refine step_movG _ rfl (some 12) rfl (.tmp 51) rfl v8 rfl (hK _ _ ?_)
      simp only [Act.put, List.setIfInBounds_toArray, List.set_cons_zero, List.set_cons_succ]
      clear hK K
      refine wpAny_done (by kernel_rfl) ?_ _
      have r0 : True := trivial
      have r1 : True := trivial
      have r2 : True := trivial
      have r3 : True := trivial
      go_wp2_with (first
        | (have q := r0; refine cut_from _ rfl (.tmp 53) (.const (.int .i64 8)) rfl v6 E 8 8 rfl rfl rfl (by have := LS.out; omega) (XD.out.below Q8.out) ?_; intro v9 y9; rw [HEX.out] at y9; have Y9 : Hid (Byt w8 v9 X1) := y9; clear y9 r0 q)
        | (at_builtin; have q := r1; refine pushs_lawG _ rfl (.tmp 52) (.tmp 54) rfl we.heap.size s8 v8 v9 (A ++ M) X1 rfl rfl O8.out Y9.out (by have := LS.out; rw [List.length_append]; omega) (by have := LS.out; omega) ?_; intro v10 w10 o10 B10; have O10 : Hid (Own we.heap.size w10 v10 (A ++ M ++ X1)) := o10; have Q10 : Hid (Below we.heap.size we w10) := Q8.out.trans B10; have s10 := Q10.out.size; clear o10 B10 r1 q)
        | (have q := r2; refine cut_from _ rfl (.tmp 57) (.tmp 59) rfl u7 (R k) ((p : Int) + 8) (p + 8) rfl rfl rfl (by have := LK.out; omega) (YD.out.below Q10.out) ?_; intro v11 y11; rw [HED.out] at y11; have Y11 : Hid (Byt w10 v11 D) := y11; clear y11 r2 q)
        | (at_builtin; have q := r3; refine pushs_lawG _ rfl (.tmp 56) (.tmp 60) rfl we.heap.size s10 v10 v11 (A ++ M ++ X1) D rfl rfl O10.out Y11.out (by have := LS.out; rw [List.length_append, List.length_append]; omega) (by have := LS.out; omega) ?_; intro v12 w12 o12 B12; have O12 : Hid (Own we.heap.size w12 v12 (A ++ M ++ X1 ++ D)) := o12; have Q12 : Hid (Below we.heap.size we w12) := Q10.out.trans B12; clear o12 B12 r3 q))
      go_roundw
      case rel => exact ⟨k + 1, by omega, by rw [HJ.out]; go_num, by rw [HER.out]; exact O12.out.byt (by rw [← HER.out]; exact HAR.out), BD.out.trans (Q12.out.mono BD.out.size)⟩
      case measure => have := HJ.out; simp [intOf]; omega
    · have hkn : k = T := by omega
      subst hkn
      have k1 : ¬ ((j : Int) ≤ (k : Int)) := by have := HJ.out; omega
      go_wp2
      go_ret
      exact ⟨_, rfl, by rw [HW.out]; exact HY.out, HB.out⟩
end Go.Proofs.Ytjiddmgnkldmkaa.wr
