/- What derive's Bytes, Block and Keys answer where they refuse, Block and Keys else; the reference's Bytes; the law's light. No claim of its own. -/
import Derived.Test.YtaplllonomdgeaaDerBytes
namespace Go.Proofs.Ytaplllonomdgeaa
open Go.RowKit

theorem cat_take (f : Nat → List Int) (h : ∀ i, (f i).length = 32) (n k j : Nat) (hk : n ≤ 32 * k) : (cat f (k + j)).take n = (cat f k).take n := by
  induction j with
  | zero => rfl
  | succ j ih =>
    show (cat f (k + j) ++ f (k + j + 1)).take n = _
    rw [List.take_append_of_le_length (by rw [cat_len f h]; omega), ih]
/-- what is derived begins what is derived longer -/
theorem drv_begins (bl ss : List Int) (c n m : Nat) : (drv bl ss c (n + m)).take n = drv bl ss c n := by
  have e : nb (n + m) = nb n + (nb (n + m) - nb n) := by unfold nb; omega
  unfold drv
  rw [List.take_take, show min n (n + m) = n by omega, e]
  exact cat_take _ (dblk_len bl ss c) n (nb n) _ (by unfold nb; omega)
theorem drv_keys (bl ss : List Int) (c : Nat) : (drv bl ss c 96).take 32 = dblk bl ss c 1 ∧ ((drv bl ss c 96).take 64).drop 32 = dblk bl ss c 2 ∧ (drv bl ss c 96).drop 64 = dblk bl ss c 3 := by
  have h := dblk_len bl ss c
  have e : drv bl ss c 96 = dblk bl ss c 1 ++ (dblk bl ss c 2 ++ dblk bl ss c 3) := by
    show ((([] ++ dblk bl ss c 1) ++ dblk bl ss c 2) ++ dblk bl ss c 3).take 96 = _
    rw [List.take_of_length_le (by simp [h])]
    simp
  rw [e]
  refine ⟨?_, ?_, ?_⟩
  · rw [List.take_append_of_le_length (by rw [h]; omega), List.take_of_length_le (by rw [h]; omega)]
  · rw [List.take_append, List.take_of_length_le (by rw [h]; omega), h, List.drop_append_of_le_length (by rw [h]; omega), List.drop_of_length_le (by rw [h]; omega), List.nil_append, List.take_append_of_le_length (by rw [h]; omega), List.take_of_length_le (by rw [h]; omega)]
  · rw [List.drop_append, List.drop_of_length_le (by rw [h]; omega), List.nil_append, h, List.drop_append, List.drop_of_length_le (by rw [h]; omega), List.nil_append, h]
    rfl

set_option maxHeartbeats 1000000 in
theorem dbytes_no (w : World) (v u : Value) (xs : List Int) (c n : Int) (hv : Byt w v xs) (hno : ¬ (xs.length ≤ 64 ∧ 1 ≤ c ∧ c ≤ 1000) ∨ n < 0 ∨ 1024 < n) :
    Calls Try.prog 9 #[v, u, .int .i64 c, .int .i64 n] w fun e w' => e = .returned (.tuple #[.slice none 0 0, .int .i64 2]) ∧ w' = w := by
  have HV : Hid (Byt w v xs) := hv
  by_cases hr : xs.length ≤ 64 ∧ 1 ≤ c ∧ c ≤ 1000
  · have HMY : Hid (∀ w0, Byt w0 v xs → Calls Try.prog 16 #[v, .int .i64 c] w0 fun e w' => e = .returned (.bool true) ∧ w' = w0) := fun w0 h => may_any w0 v xs c h true (by rw [decide_eq_true hr])
    have hn : n < 0 ∨ 1024 < n := by
      rcases hno with h | h
      · exact absurd hr h
      · exact h
    clear hno hr hv
    by_cases h0 : n < 0
    · go_enter Try.func9, Try.ntmps9
      go_wp2_with (go_at_call 16; refine (HMY.out _ HV.out).mono ?_; rintro e w' ⟨rfl, hw⟩; obtain rfl := hw.symm)
      go_ret2
      exact ⟨rfl, rfl⟩
    · have h1 : 1024 < n := by omega
      clear hn
      go_enter Try.func9, Try.ntmps9
      go_wp2_with (go_at_call 16; refine (HMY.out _ HV.out).mono ?_; rintro e w' ⟨rfl, hw⟩; obtain rfl := hw.symm)
      go_ret2
      exact ⟨rfl, rfl⟩
  · have HMY : Hid (∀ w0, Byt w0 v xs → Calls Try.prog 16 #[v, .int .i64 c] w0 fun e w' => e = .returned (.bool false) ∧ w' = w0) := fun w0 h => may_any w0 v xs c h false (by rw [decide_eq_false hr])
    clear hno hr hv
    go_enter Try.func9, Try.ntmps9
    go_wp2_with (go_at_call 16; refine (HMY.out _ HV.out).mono ?_; rintro e w' ⟨rfl, hw⟩; obtain rfl := hw.symm)
    go_ret2
    exact ⟨rfl, rfl⟩

set_option maxHeartbeats 1000000 in
theorem dblockE_no (w : World) (v u : Value) (xs : List Int) (c n : Int) (hv : Byt w v xs) (hno : ¬ (xs.length ≤ 64 ∧ 1 ≤ c ∧ c ≤ 1000) ∨ n < 1 ∨ 32 < n) :
    Calls Try.prog 13 #[v, u, .int .i64 c, .int .i64 n] w fun e w' => e = .returned (.tuple #[.slice none 0 0, .int .i64 2]) ∧ w' = w := by
  have HV : Hid (Byt w v xs) := hv
  by_cases hr : xs.length ≤ 64 ∧ 1 ≤ c ∧ c ≤ 1000
  · have HMY : Hid (∀ w0, Byt w0 v xs → Calls Try.prog 16 #[v, .int .i64 c] w0 fun e w' => e = .returned (.bool true) ∧ w' = w0) := fun w0 h => may_any w0 v xs c h true (by rw [decide_eq_true hr])
    have hn : n < 1 ∨ 32 < n := by
      rcases hno with h | h
      · exact absurd hr h
      · exact h
    clear hno hr hv
    by_cases h0 : n < 1
    · go_enter Try.func13, Try.ntmps13
      go_wp2_with (go_at_call 16; refine (HMY.out _ HV.out).mono ?_; rintro e w' ⟨rfl, hw⟩; obtain rfl := hw.symm)
      go_ret2
      exact ⟨rfl, rfl⟩
    · have h1 : 32 < n := by omega
      clear hn
      go_enter Try.func13, Try.ntmps13
      go_wp2_with (go_at_call 16; refine (HMY.out _ HV.out).mono ?_; rintro e w' ⟨rfl, hw⟩; obtain rfl := hw.symm)
      go_ret2
      exact ⟨rfl, rfl⟩
  · have HMY : Hid (∀ w0, Byt w0 v xs → Calls Try.prog 16 #[v, .int .i64 c] w0 fun e w' => e = .returned (.bool false) ∧ w' = w0) := fun w0 h => may_any w0 v xs c h false (by rw [decide_eq_false hr])
    clear hno hr hv
    go_enter Try.func13, Try.ntmps13
    go_wp2_with (go_at_call 16; refine (HMY.out _ HV.out).mono ?_; rintro e w' ⟨rfl, hw⟩; obtain rfl := hw.symm)
    go_ret2
    exact ⟨rfl, rfl⟩

set_option maxHeartbeats 2000000 in
theorem dblockE_any (w : World) (v u : Value) (xs ss : List Int) (c i : Nat) (hv : Byt w v xs) (hu : Byt w u ss) (hx : xs.length ≤ 64) (hs : ss.length ≤ 1000) (hc : 1 ≤ c) (hc2 : c ≤ 1000) (hi : 1 ≤ i) (hi2 : i ≤ 32) :
    Calls Try.prog 13 #[v, u, .int .i64 c, .int .i64 i] w fun e w' => ∃ v', e = .returned (.tuple #[v', .int .i64 0]) ∧ Byt w' v' (dblk (blk xs) ss c i) ∧ Below w.heap.size w w' := by
  have HV : Hid (Byt w v xs) := hv
  have HU : Hid (Byt w u ss) := hu
  have HMY : Hid (∀ w0, Byt w0 v xs → Calls Try.prog 16 #[v, .int .i64 c] w0 fun e w' => e = .returned (.bool true) ∧ w' = w0) := fun w0 h => may_any w0 v xs c h true (by simp; omega)
  have HMN : Hid (∀ w0, Byt w0 v xs → Calls Try.prog 17 #[v] w0 fun e w' => ∃ k, e = .returned (.pointer (some ⟨k, 0, none⟩)) ∧ KeyV w' (.pointer (some ⟨k, 0, none⟩)) (blk xs) ∧ Below w0.heap.size w0 w') := fun w0 h => (mnew_any w0 v xs h (by omega)).mono fun _ _ ⟨k, he, _, hA, hb⟩ => ⟨k, he, blk_key hA hv.all, hb⟩
  have HDB : Hid (∀ w0 kv, KeyV w0 kv (blk xs) → Byt w0 u ss → Calls Try.prog 18 #[kv, u, .int .i64 c, .int .i64 i] w0 fun e w' => ∃ v', e = .returned v' ∧ Byt w' v' (dblk (blk xs) ss c i) ∧ Below w0.heap.size w0 w') := fun w0 kv h1 h2 => (dblock_any w0 kv u (blk xs) ss c i h1 h2 hs hc hc2 (by omega)).mono fun _ _ ⟨g, cap, he, _, h1, h2, hA, hb⟩ => ⟨_, he, ar32_byt hA (dblk_all _ _ _ _) (dblk_len _ _ _ _) cap h1 h2, hb⟩
  generalize dblk (blk xs) ss c i = D at *
  generalize blk xs = bl at *
  have i1 : ¬ (i : Int) < 1 := by omega
  have i2 : ¬ 32 < (i : Int) := by omega
  clear hv hu hx hs
  go_enter Try.func13, Try.ntmps13
  go_wp2_with (first
    | (go_at_call 18; refine (HDB.out _ _ HK1.out HU1.out).mono ?_; rintro e w2 ⟨v2, rfl, hv2, b2⟩; have HV2 : Hid (Byt w2 v2 D) := hv2; clear hv2)
    | (go_at_call 17; refine (HMN.out _ HV.out).mono ?_; rintro e w1 ⟨k, rfl, hk1, b1⟩; have HK1 : Hid (KeyV w1 (.pointer (some ⟨k, 0, none⟩)) bl) := hk1; have HU1 : Hid (Byt w1 u ss) := HU.out.below b1; clear hk1)
    | (go_at_call 16; refine (HMY.out _ HV.out).mono ?_; rintro e w' ⟨rfl, hw⟩; obtain rfl := hw.symm))
  go_ret2
  exact ⟨_, rfl, HV2.out, b1.trans (b2.mono b1.size)⟩

set_option maxHeartbeats 1000000 in
theorem dkeys_no (w : World) (v u : Value) (xs : List Int) (c : Int) (hv : Byt w v xs) (hr : ¬ (xs.length ≤ 64 ∧ 1 ≤ c ∧ c ≤ 1000)) :
    Calls Try.prog 15 #[v, u, .int .i64 c] w fun e w' => e = .returned (.tuple #[.slice none 0 0, .slice none 0 0, .slice none 0 0, .int .i64 2]) ∧ w' = w := by
  have HV : Hid (Byt w v xs) := hv
  have HMY : Hid (∀ w0, Byt w0 v xs → Calls Try.prog 16 #[v, .int .i64 c] w0 fun e w' => e = .returned (.bool false) ∧ w' = w0) := fun w0 h => may_any w0 v xs c h false (by rw [decide_eq_false hr])
  clear hr hv
  go_enter Try.func15, Try.ntmps15
  go_wp2_with (go_at_call 16; refine (HMY.out _ HV.out).mono ?_; rintro e w' ⟨rfl, hw⟩; obtain rfl := hw.symm)
  exact bodyPost_ret (v := .tuple #[.slice none 0 0, .slice none 0 0, .slice none 0 0, .int .i64 2]) (by simp [results, Try.results15, go_sem]) rfl ⟨rfl, rfl⟩

set_option maxHeartbeats 2000000 in
theorem dkeys_any (w : World) (v u : Value) (xs ss : List Int) (c : Nat) (hv : Byt w v xs) (hu : Byt w u ss) (hx : xs.length ≤ 64) (hs : ss.length ≤ 1000) (hc : 1 ≤ c) (hc2 : c ≤ 1000) :
    Calls Try.prog 15 #[v, u, .int .i64 c] w fun e w' => ∃ v1 v2 v3, e = .returned (.tuple #[v1, v2, v3, .int .i64 0]) ∧ Byt w' v1 (dblk (blk xs) ss c 1) ∧ Byt w' v2 (dblk (blk xs) ss c 2) ∧ Byt w' v3 (dblk (blk xs) ss c 3) ∧ Below w.heap.size w w' := by
  have HV : Hid (Byt w v xs) := hv
  have HU : Hid (Byt w u ss) := hu
  have HMY : Hid (∀ w0, Byt w0 v xs → Calls Try.prog 16 #[v, .int .i64 c] w0 fun e w' => e = .returned (.bool true) ∧ w' = w0) := fun w0 h => may_any w0 v xs c h true (by simp; omega)
  have HMN : Hid (∀ w0, Byt w0 v xs → Calls Try.prog 17 #[v] w0 fun e w' => ∃ k, e = .returned (.pointer (some ⟨k, 0, none⟩)) ∧ KeyV w' (.pointer (some ⟨k, 0, none⟩)) (blk xs) ∧ Below w0.heap.size w0 w') := fun w0 h => (mnew_any w0 v xs h (by omega)).mono fun _ _ ⟨k, he, _, hA, hb⟩ => ⟨k, he, blk_key hA hv.all, hb⟩
  have hdb : ∀ (i : Nat), i ≤ 3 → ∀ w0 kv, KeyV w0 kv (blk xs) → Byt w0 u ss → Calls Try.prog 18 #[kv, u, .int .i64 c, .int .i64 (i : Int)] w0 fun e w' => ∃ v', e = .returned v' ∧ Byt w' v' (dblk (blk xs) ss c i) ∧ Below w0.heap.size w0 w' := fun i hi w0 kv h1 h2 => (dblock_any w0 kv u (blk xs) ss c i h1 h2 hs hc hc2 (by omega)).mono fun _ _ ⟨g, cap, he, _, h1, h2, hA, hb⟩ => ⟨_, he, ar32_byt hA (dblk_all _ _ _ _) (dblk_len _ _ _ _) cap h1 h2, hb⟩
  have HD1 : Hid (∀ w0 kv, KeyV w0 kv (blk xs) → Byt w0 u ss → Calls Try.prog 18 #[kv, u, .int .i64 c, .int .i64 1] w0 fun e w' => ∃ v', e = .returned v' ∧ Byt w' v' (dblk (blk xs) ss c 1) ∧ Below w0.heap.size w0 w') := hdb 1 (by omega)
  have HD2 : Hid (∀ w0 kv, KeyV w0 kv (blk xs) → Byt w0 u ss → Calls Try.prog 18 #[kv, u, .int .i64 c, .int .i64 2] w0 fun e w' => ∃ v', e = .returned v' ∧ Byt w' v' (dblk (blk xs) ss c 2) ∧ Below w0.heap.size w0 w') := hdb 2 (by omega)
  have HD3 : Hid (∀ w0 kv, KeyV w0 kv (blk xs) → Byt w0 u ss → Calls Try.prog 18 #[kv, u, .int .i64 c, .int .i64 3] w0 fun e w' => ∃ v', e = .returned v' ∧ Byt w' v' (dblk (blk xs) ss c 3) ∧ Below w0.heap.size w0 w') := hdb 3 (by omega)
  generalize dblk (blk xs) ss c 1 = D1 at *
  generalize dblk (blk xs) ss c 2 = D2 at *
  generalize dblk (blk xs) ss c 3 = D3 at *
  clear hdb
  generalize blk xs = bl at *
  clear hv hu hx hs
  go_enter Try.func15, Try.ntmps15
  go_wp2_with (first
    | (go_at_call 18; have q := HV23; refine (HD3.out _ _ HK3.out HU3.out).mono ?_; rintro e w4 ⟨v4, rfl, hv4, b4⟩; have HV4 : Hid (Byt w4 v4 D3) := hv4; have HV24 : Hid (Byt w4 v2 D1) := HV23.out.below b4; have HV34 : Hid (Byt w4 v3 D2) := HV33.out.below b4; have C4 : Below w.heap.size w w4 := C3.trans (b4.mono C3.size); clear hv4)
    | (go_at_call 18; have q := HV22; refine (HD2.out _ _ HK2.out HU2.out).mono ?_; rintro e w3 ⟨v3, rfl, hv3, b3⟩; have HV33 : Hid (Byt w3 v3 D2) := hv3; have HV23 : Hid (Byt w3 v2 D1) := HV22.out.below b3; have HK3 : Hid (KeyV w3 (.pointer (some ⟨k, 0, none⟩)) bl) := HK2.out.below b3; have HU3 : Hid (Byt w3 u ss) := HU2.out.below b3; have C3 : Below w.heap.size w w3 := C2.trans (b3.mono C2.size); clear hv3)
    | (go_at_call 18; refine (HD1.out _ _ HK1.out HU1.out).mono ?_; rintro e w2 ⟨v2, rfl, hv2, b2⟩; have HV22 : Hid (Byt w2 v2 D1) := hv2; have HK2 : Hid (KeyV w2 (.pointer (some ⟨k, 0, none⟩)) bl) := HK1.out.below b2; have HU2 : Hid (Byt w2 u ss) := HU1.out.below b2; have C2 : Below w.heap.size w w2 := b1.trans (b2.mono b1.size); clear hv2)
    | (go_at_call 17; refine (HMN.out _ HV.out).mono ?_; rintro e w1 ⟨k, rfl, hk1, b1⟩; have HK1 : Hid (KeyV w1 (.pointer (some ⟨k, 0, none⟩)) bl) := hk1; have HU1 : Hid (Byt w1 u ss) := HU.out.below b1; clear hk1)
    | (go_at_call 16; refine (HMY.out _ HV.out).mono ?_; rintro e w' ⟨rfl, hw⟩; obtain rfl := hw.symm))
  exact bodyPost_ret (v := .tuple #[v2, v3, v4, .int .i64 0]) (by simp [results, Try.results15, go_sem]) rfl ⟨v2, v3, v4, rfl, HV24.out, HV34.out, HV4.out, C4⟩

set_option maxHeartbeats 4000000 in
theorem rbytes_any (w : World) (v u : Value) (xs ss : List Int) (c n : Nat) (hv : Byt w v xs) (hu : Byt w u ss) (hx : xs.length ≤ 1000) (hs : ss.length ≤ 1000) (hc : 1 ≤ c) (hc2 : c ≤ 1000) (hn : n ≤ 1024) :
    Calls Try.prog 12 #[v, u, .int .i64 c, .int .i64 n] w fun e w' => ∃ v', e = .returned v' ∧ Byt w' v' (drv (blk xs) ss c n) ∧ Below w.heap.size w w' := by
  have HV : Hid (Byt w v xs) := hv
  have HU : Hid (Byt w u ss) := hu
  have HDB : Hid (∀ w0 (k : Nat), Byt w0 v xs → Byt w0 u ss → k ≤ 999 → Calls Try.prog 14 #[v, u, .int .i64 c, .int .i64 ((k : Int) + 1)] w0 fun e w' => ∃ v', e = .returned v' ∧ Byt w' v' (dblk (blk xs) ss c (k + 1)) ∧ Below w0.heap.size w0 w') := fun w0 k h1 h2 h3 => by
    have := rdblock_any w0 v u xs ss c (k + 1) h1 h2 hx hs hc hc2 (by omega)
    rwa [show ((k + 1 : Nat) : Int) = (k : Int) + 1 by omega] at this
  have HDL : Hid (∀ i, (dblk (blk xs) ss c i).length = 32 ∧ AllB (dblk (blk xs) ss c i)) := fun i => ⟨dblk_len _ _ _ _, dblk_all _ _ _ _⟩
  have HCL : Hid (∀ k, (cat (dblk (blk xs) ss c) k).length = 32 * k ∧ AllB (cat (dblk (blk xs) ss c) k)) := fun k => ⟨cat_len _ (dblk_len _ _ _) k, cat_all _ (dblk_all _ _ _) k⟩
  have HC0 : Hid (cat (dblk (blk xs) ss c) 0 = []) := rfl
  have HC1 : Hid (∀ k, cat (dblk (blk xs) ss c) (k + 1) = cat (dblk (blk xs) ss c) k ++ dblk (blk xs) ss c (k + 1)) := fun k => rfl
  have HDR : Hid (drv (blk xs) ss c n = (cat (dblk (blk xs) ss c) (nb n)).take n) := rfl
  generalize drv (blk xs) ss c n = R at *
  generalize cat (dblk (blk xs) ss c) = CT at *
  generalize dblk (blk xs) ss c = f at *
  generalize blk xs = bl at *
  have B0 : Below w.heap.size w (w.alloc (.cells #[] 5)) := (Below.refl _ _).alloc (Nat.le_refl _) _
  have HO0 : Hid (Own w.heap.size (w.alloc (.cells #[] 5)) (.slice (some ⟨w.heap.size, 0, none⟩) 0 0) (CT 0)) := by rw [HC0.out]; exact Own.empty w (Nat.le_refl _)
  obtain ⟨K, hK⟩ : ∃ K, K = nb n := ⟨_, rfl⟩
  rw [← hK] at HDR
  unfold nb at hK
  have HK : Hid (n ≤ 32 * K ∧ K ≤ 32 ∧ ∀ k, k < K → 32 * k < n) := ⟨by omega, by omega, by intro k hk; omega⟩
  clear hv hu hx hs hK
  have n1 : (n : Int) ≤ 1024 := by omega
  go_enter Try.func12, Try.ntmps12
  go_wp2
  go_loopw [9, 10] (fun t i wr => ∃ k : Nat, k ≤ K ∧ i = .int .i64 ((k : Int) + 1) ∧ Own w.heap.size wr t (CT k) ∧ Below w.heap.size w wr) (fun _ i _ => K + 1 - (intOf i).toNat)
  case atStart => exact ⟨0, Nat.zero_le _, rfl, HO0.out, B0⟩
  case round =>
    obtain ⟨k, hk, rfl, hO, hbel⟩ := hrel
    have HO : Hid (Own w.heap.size wr u9 (CT k)) := hO
    obtain ⟨ro, rc, hv9, e1, e2, -, -, -⟩ := hO.byt (HCL.out k).2
    subst hv9
    clear hO
    obtain ⟨p, hp⟩ : ∃ p, p = (CT k).length := ⟨_, rfl⟩
    have hp2 : p = 32 * k := by rw [hp]; exact (HCL.out k).1
    rw [← hp] at HO e1 ⊢
    have k0 : (0 : Int) ≤ (k : Int) := by omega
    have hsz := hbel.size
    have hK32 := HK.out.2.1
    have HVr : Hid (Byt wr v xs) := HV.out.below hbel
    have HUr : Hid (Byt wr u ss) := HU.out.below hbel
    by_cases hlt : k < K
    · have hkn := HK.out.2.2 k hlt
      have k1 : (p : Int) < (n : Int) := by omega
      have hk9 : k ≤ 999 := by omega
      have q4 : IntKind.i64.wrap ((k : Int) + 1) = (k : Int) + 1 := by rw [IntKind.wrap_i64]; omega
      have q5 : IntKind.i64.wrap ((k : Int) + 1 + 1) = (k : Int) + 1 + 1 := by rw [IntKind.wrap_i64]; omega
      have HPL : Hid (p = (CT k).length ∧ p ≤ 1024) := ⟨hp, by omega⟩
      clear hp hp2 hkn
      go_wp2_with (first
        | (refine pushs_law _ rfl (.tmp 18) (.tmp 23) rfl w.heap.size C1.size _ _ (CT k) (f (k + 1)) rfl rfl HO1.out HV1.out (by have := HPL.out; omega) (by rw [(HDL.out _).1]; omega) ?_; intro v2 w2 O2 b2; rw [← HC1.out] at O2; have HO2 : Hid (Own w.heap.size w2 v2 (CT (k + 1))) := O2; clear O2)
        | (go_at_call 14; refine (HDB.out _ k HVr.out HUr.out hk9).mono ?_; rintro e w1 ⟨v1, rfl, hv1, b1⟩; have HV1 : Hid (Byt w1 v1 (f (k + 1))) := hv1; have HO1 : Hid (Own w.heap.size w1 (.slice ro p rc) (CT k)) := ownsRow_below HO.out b1; have C1 : Below w.heap.size w w1 := hbel.trans (b1.mono hsz); clear hv1))
      go_roundw
      case rel => exact ⟨k + 1, by omega, by go_num, HO2.out, C1.trans b2⟩
      case measure => simp [intOf]; omega
    · have hkK : k = K := by omega
      subst hkK
      have hkn := HK.out.1
      have k1 : ¬ (p : Int) < (n : Int) := by omega
      have HB : Hid (Byt wr (.slice ro p rc) (CT k)) := HO.out.byt (HCL.out k).2
      go_wp2_with (refine cut_to _ rfl (.tmp 25) (.tmp 26) rfl _ (CT k) _ n rfl rfl rfl (by rw [← hp]; omega) HB.out ?_; intro v3 hv3; rw [← HDR.out] at hv3; have HV3 : Hid (Byt wr v3 R) := hv3; clear hv3)
      go_ret
      exact ⟨_, rfl, HV3.out, hbel⟩

set_option maxHeartbeats 1000000 in
theorem light_any (w : World) (v u : Value) (xs ss : List Int) (c : Int) (h : Byt w v xs) (hu : Byt w u ss) (b : Bool) (hb : b = decide (xs.length ≤ 100 ∧ ss.length ≤ 100 ∧ c ≤ 6)) :
    Calls Try.prog 7 #[v, u, .int .i64 c] w fun e w' => e = .returned (.bool b) ∧ w' = w := by
  obtain ⟨ao, cap, rfl, h1, h2, -, -, -⟩ := h
  obtain ⟨bo, cb, rfl, h3, h4, -, -, -⟩ := hu
  obtain ⟨n, hn⟩ : ∃ n, n = xs.length := ⟨_, rfl⟩
  obtain ⟨m, hm⟩ : ∃ m, m = ss.length := ⟨_, rfl⟩
  rw [← hn, ← hm] at hb
  rw [← hn] at h1
  rw [← hm] at h3
  rw [← hn, ← hm]
  clear hn hm
  have HB : Hid (b = decide (n ≤ 100 ∧ m ≤ 100 ∧ c ≤ 6)) := hb
  clear hb
  by_cases a1 : n ≤ 100
  · have l1 : (n : Int) ≤ 100 := by omega
    by_cases a2 : m ≤ 100
    · have l2 : (m : Int) ≤ 100 := by omega
      by_cases a3 : c ≤ 6
      all_goals
        go_enter Try.func7, Try.ntmps7
        go_wp2
        go_ret
        exact ⟨ret_bool (by rw [HB.out]; simp; omega), rfl⟩
    · have l2 : ¬ (m : Int) ≤ 100 := by omega
      go_enter Try.func7, Try.ntmps7
      go_wp2
      go_ret
      exact ⟨ret_bool (by rw [HB.out]; simp; omega), rfl⟩
  · have l1 : ¬ (n : Int) ≤ 100 := by omega
    go_enter Try.func7, Try.ntmps7
    go_wp2
    go_ret
    exact ⟨ret_bool (by rw [HB.out]; simp; omega), rfl⟩
end Go.Proofs.Ytaplllonomdgeaa
