/- What derive's Bytes, Block and Keys and the reference's Bytes and Right answer. No claim of its own. -/
import Derived.Test.YtaplllonomdgeaaDerBlock
namespace Go.Proofs.Ytaplllonomdgeaa
open Go.RowKit

section
variable {ops : Array Oper} {o : Oper} {a : Act} {Q : Exit → Act → World → Prop} {K : Act → World → Prop} {E : Prop}
/-- 'make([]byte, n)' in a region that draws its order -/
theorem step_make (w : World) (hg : o.guard = none) (d : Option Tmp) (hd : o.dst = d) (l c : Operand) (hop : o.op = Op.makeSlice 22 l c) (B : Nat) (hB : B ≤ w.heap.size)
    (L : Int) (n : Nat) (hl : a.eval l = .int .i64 L) (hc : a.eval c = .int .i64 L) (hL : L = (n : Int)) (hn : n ≤ 1099511627776)
    (hK : ∀ w', OwnN B w' w.heap.size n (List.replicate n 0) → Below B w w' → w.heap.size < w'.heap.size → K (a.put d (.slice (some ⟨w.heap.size, 0, none⟩) n n)) w') :
    if Region.wanted o (yielded ops a.tmps) = true then Oper.wp Try.prog o a w K Q else E := by
  have hw : Region.wanted o (yielded ops a.tmps) = true := by simp [Region.wanted, hg]
  rw [if_pos hw]
  subst hd
  obtain ⟨i0, hi, hz0, hz1, hz2⟩ := info_parts info_u8
  obtain ⟨w', hrun, h1, h2⟩ := run_make_full (P := Try.prog) w B 22 5 i0 (.int .u8 0) 1 Try.underlying22 hi hz0 hz1 .i64 .i64 n (by rw [hz2]; omega) (by simp only [maxLen]; omega) hB
  subst hL
  have hlt : w.heap.size < w'.heap.size := (h1.lt w.heap.size rfl).2
  unfold Oper.wp
  simp [execOp, hop, hl, hc, hrun, Result.andThen]
  refine hK w' ⟨by simp, hB, ?_⟩ ((Below.refl B w).grown h2 hB (fun k hk => by cases hk)) hlt
  have e : (madeCells (Value.int .u8 0).cells (n * 1)).toList = (List.replicate n (0 : Int)).map (Value.int .u8) := by
    rw [Nat.mul_one]
    show (madeCells #[Value.int .u8 0] n).toList = _
    rw [toList_madeCells_one]; simp
  rw [e] at h1
  exact h1
/-- a call in a region that draws its order; what it answers is a letter -/
theorem step_callE (w : World) (hg : o.guard = none) (d : Option Tmp) (hd : o.dst = d) (f : FuncId) (args : Array Operand) (ats : Array TypeId) (hop : o.op = .call { callee := .value (.func f), args := args, argTypes := ats })
    (hcf : ∀ (q : Array Value) (w : World), (callFunc f q).run Try.prog w = .ok (.enter f q) w) (vs : Array Value) (hvs : args.map a.eval = vs) (R : Value → World → Prop) (hc : Calls Try.prog f vs w fun e w' => ∃ v, e = .returned v ∧ R v w') (hK : ∀ v w', R v w' → K (a.put d v) w') : if Region.wanted o (yielded ops a.tmps) = true then Oper.wp Try.prog o a w K Q else E := by
  have hw : Region.wanted o (yielded ops a.tmps) = true := by simp [Region.wanted, hg]
  rw [if_pos hw]
  subst hd
  subst hvs
  unfold Oper.wp
  simp only [execOp, hop]
  go_simp
  refine hc.mono ?_
  rintro e w' ⟨v, rfl, hr⟩
  exact hK v w' hr
end

set_option maxHeartbeats 1000000 in
theorem may_any (w : World) (v : Value) (xs : List Int) (c : Int) (h : Byt w v xs) (b : Bool) (hb : b = decide (xs.length ≤ 64 ∧ 1 ≤ c ∧ c ≤ 1000)) :
    Calls Try.prog 16 #[v, .int .i64 c] w fun e w' => e = .returned (.bool b) ∧ w' = w := by
  obtain ⟨ao, cap, rfl, h1, h2, -, -, -⟩ := h
  obtain ⟨n, hn⟩ : ∃ n, n = xs.length := ⟨_, rfl⟩
  rw [← hn] at hb h1 ⊢
  clear hn
  have HB : Hid (b = decide (n ≤ 64 ∧ 1 ≤ c ∧ c ≤ 1000)) := hb
  clear hb
  by_cases a1 : n ≤ 64
  · have l1 : (n : Int) ≤ 64 := by omega
    by_cases a2 : 1 ≤ c
    · by_cases a3 : c ≤ 1000
      all_goals
        go_enter Try.func16, Try.ntmps16
        go_wp2
        go_ret
        exact ⟨ret_bool (by rw [HB.out]; simp; omega), rfl⟩
    · go_enter Try.func16, Try.ntmps16
      go_wp2
      go_ret
      exact ⟨ret_bool (by rw [HB.out]; simp; omega), rfl⟩
  · have l1 : ¬ (n : Int) ≤ 64 := by omega
    go_enter Try.func16, Try.ntmps16
    go_wp2
    go_ret
    exact ⟨ret_bool (by rw [HB.out]; simp; omega), rfl⟩

set_option maxHeartbeats 1000000 in
theorem right_any (w : World) (v : Value) (xs : List Int) (c : Int) (h : Byt w v xs) (b : Bool) (hb : b = decide (xs.length ≤ 64 ∧ 1 ≤ c ∧ c ≤ 1000)) :
    Calls Try.prog 10 #[v, .int .i64 c] w fun e w' => e = .returned (.bool b) ∧ w' = w := by
  obtain ⟨ao, cap, rfl, h1, h2, -, -, -⟩ := h
  obtain ⟨n, hn⟩ : ∃ n, n = xs.length := ⟨_, rfl⟩
  rw [← hn] at hb h1 ⊢
  clear hn
  have HB : Hid (b = decide (n ≤ 64 ∧ 1 ≤ c ∧ c ≤ 1000)) := hb
  clear hb
  by_cases a1 : n ≤ 64
  · have l1 : (n : Int) ≤ 64 := by omega
    by_cases a2 : 1 ≤ c
    · by_cases a3 : c ≤ 1000
      all_goals
        go_enter Try.func10, Try.ntmps10
        go_wp2
        go_ret
        exact ⟨ret_bool (by rw [HB.out]; simp; omega), rfl⟩
    · go_enter Try.func10, Try.ntmps10
      go_wp2
      go_ret
      exact ⟨ret_bool (by rw [HB.out]; simp; omega), rfl⟩
  · have l1 : ¬ (n : Int) ≤ 64 := by omega
    go_enter Try.func10, Try.ntmps10
    go_wp2
    go_ret
    exact ⟨ret_bool (by rw [HB.out]; simp; omega), rfl⟩

theorem step_callE1 {ops : Array Oper} {o : Oper} {a : Act} {Q : Exit → Act → World → Prop} {K : Act → World → Prop} {E : Prop} (w : World) (hg : o.guard = none) (d : Option Tmp) (hd : o.dst = d) (f : FuncId) (x : Operand) (ats : Array TypeId) (hop : o.op = .call { callee := .value (.func f), args := #[x], argTypes := ats })
    (hcf : ∀ (q : Array Value) (w : World), (callFunc f q).run Try.prog w = .ok (.enter f q) w) (vx : Value) (hx : a.eval x = vx) (R : Value → World → Prop) (hc : Calls Try.prog f #[vx] w fun e w' => ∃ v, e = .returned v ∧ R v w') (hK : ∀ v w', R v w' → K (a.put d v) w') : if Region.wanted o (yielded ops a.tmps) = true then Oper.wp Try.prog o a w K Q else E :=
  step_callE w hg d hd f #[x] ats hop hcf #[vx] (by simp [hx]) R hc hK
/-- how many blocks n bytes are -/
def nb (n : Nat) : Nat := (n + 31) / 32
/-- n bytes that are derived -/
def drv (bl ss : List Int) (c n : Nat) : List Int := (cat (dblk bl ss c) (nb n)).take n
theorem drv_len (bl ss : List Int) (c n : Nat) : (drv bl ss c n).length = n := by
  have := cat_len (dblk bl ss c) (dblk_len bl ss c) (nb n)
  unfold drv
  rw [List.length_take, this]
  unfold nb
  omega
theorem drv_all (bl ss : List Int) (c n : Nat) : AllB (drv bl ss c n) := allB_tk (cat_all _ (dblk_all bl ss c) _) _

set_option maxHeartbeats 4000000 in
theorem dbytes_any (w : World) (v u : Value) (xs ss : List Int) (c n : Nat) (hv : Byt w v xs) (hu : Byt w u ss) (hx : xs.length ≤ 64) (hs : ss.length ≤ 1000) (hc : 1 ≤ c) (hc2 : c ≤ 1000) (hn : n ≤ 1024) :
    Calls Try.prog 9 #[v, u, .int .i64 c, .int .i64 n] w fun e w' => ∃ v', e = .returned (.tuple #[v', .int .i64 0]) ∧ Byt w' v' (drv (blk xs) ss c n) ∧ Below w.heap.size w w' := by
  have HV : Hid (Byt w v xs) := hv
  have HU : Hid (Byt w u ss) := hu
  have HSL : Hid (ss.length ≤ 1000) := hs
  have HBL : Hid ((blk xs).length = 64 ∧ AllB (blk xs)) := ⟨blk_len xs, blk_all xs hv.all⟩
  have HMY : Hid (∀ w0, Byt w0 v xs → Calls Try.prog 16 #[v, .int .i64 c] w0 fun e w' => e = .returned (.bool true) ∧ w' = w0) := fun w0 h => may_any w0 v xs c h true (by simp; omega)
  have HMN : Hid (∀ w0, Byt w0 v xs → Calls Try.prog 17 #[v] w0 fun e w' => ∃ v', e = .returned v' ∧ ∃ k, v' = .pointer (some ⟨k, 0, none⟩) ∧ w0.heap.size ≤ k ∧ Ar w' k 0 .u8 (blk xs) ∧ Below w0.heap.size w0 w') := fun w0 h => (mnew_any w0 v xs h (by omega)).mono fun _ _ ⟨k, he, h⟩ => ⟨_, he, k, rfl, h⟩
  have HDB : Hid (∀ w0 kv (k : Nat), KeyV w0 kv (blk xs) → Byt w0 u ss → k ≤ 999 → Calls Try.prog 18 #[kv, u, .int .i64 c, .int .i64 ((k : Int) + 1)] w0 fun e w' => ∃ g cap, e = .returned (.slice (some ⟨g, 0, none⟩) 32 cap) ∧ w0.heap.size ≤ g ∧ 32 ≤ cap ∧ cap ≤ 9223372036854775807 ∧ Ar w' g 0 .u8 (dblk (blk xs) ss c (k + 1)) ∧ Below w0.heap.size w0 w') := fun w0 kv k h1 h2 h3 => by
    have := dblock_any w0 kv u (blk xs) ss c (k + 1) h1 h2 hs hc hc2 (by omega)
    rwa [show ((k + 1 : Nat) : Int) = (k : Int) + 1 by omega] at this
  have HDL : Hid (∀ i, (dblk (blk xs) ss c i).length = 32 ∧ AllB (dblk (blk xs) ss c i)) := fun i => ⟨dblk_len _ _ _ _, dblk_all _ _ _ _⟩
  have HDR : Hid (drv (blk xs) ss c n = oat (dblk (blk xs) ss c) n (nb n)) := (oat_end _ _ _ (by unfold nb; omega)).symm
  have HRA : Hid (AllB (drv (blk xs) ss c n) ∧ (drv (blk xs) ss c n).length = n) := ⟨drv_all _ _ _ _, drv_len _ _ _ _⟩
  generalize drv (blk xs) ss c n = R at *
  generalize dblk (blk xs) ss c = f at *
  generalize blk xs = bl at *
  have HO0 : Hid (oat f n 0 = List.replicate n 0) := oat_zero f n
  have HOL : Hid (∀ k, (oat f n k).length = n) := fun k => oat_len f (fun i => (HDL.out i).1) n k
  have HOY : Hid (∀ k, 32 * k < n → laid (oat f n k) (32 * k) ((f (k + 1)).take (n - 32 * k)) = oat f n (k + 1)) := fun k hk => oat_lay f (fun i => (HDL.out i).1) n k hk
  generalize oat f n = OT at *
  obtain ⟨K, hK⟩ : ∃ K, K = nb n := ⟨_, rfl⟩
  rw [← hK] at HDR
  have HK : Hid (K = nb n) := hK
  unfold nb at hK
  have K1 : ((n : Int) + 32 - 1) / 32 = (K : Int) := by omega
  have K2 : ((n : Int) + 31) / 32 = (K : Int) := by omega
  have K3 : (K : Int) ≤ 32 := by omega
  have K4 : ((n : Int) + 32 - 1).tdiv 32 = (K : Int) := by rw [Int.tdiv_eq_ediv_of_nonneg (by omega)]; exact K1
  have K5 : ((n : Int) + 31).tdiv 32 = (K : Int) := by rw [Int.tdiv_eq_ediv_of_nonneg (by omega)]; exact K2
  have n1 : (n : Int) ≤ 1024 := by omega
  have n0 : (0 : Int) ≤ (n : Int) := by omega
  have n2 : ¬ (n : Int) < 0 := by omega
  have n3 : ¬ 1024 < (n : Int) := by omega
  have HKn : Hid (∀ k, k < K → 32 * k < n) := by have := hK; intro k hk; omega
  have HCN : Hid (∀ (q : Array Value) (w : World), (callFunc 17 q).run Try.prog w = .ok (.enter 17 q) w) := fun _ _ => rfl
  clear hK hv hu hx hs
  go_enter Try.func9, Try.ntmps9
  go_wp2_with (go_at_call 16; refine (HMY.out _ HV.out).mono ?_; rintro e w' ⟨rfl, hw⟩; obtain rfl := hw.symm)
  go_cut [10, 11] (fun r10 r11 wc => ∃ k g : Nat, r10 = .pointer (some ⟨k, 0, none⟩) ∧ r11 = .slice (some ⟨g, 0, none⟩) n n ∧ k ≠ g ∧ w.heap.size ≤ g ∧ Ar wc k 0 .u8 bl ∧ Ar wc g 0 .u8 (OT 0) ∧ Below w.heap.size w wc)
  case first =>
    refine wp_region_any (by kernel_rfl) ?_
    change wpAny _ _ _ _ _ _ _ (World.drew _)
    refine take_law0 0 (some 25) v rfl rfl (by kernel_rfl) (by kernel_rfl) (by kernel_rfl) (fun _ _ _ h => h) (Or.inl ⟨by rfl, fun w => by rfl⟩) ?_
    simp only [Act.put, List.setIfInBounds_toArray, List.set_cons_zero, List.set_cons_succ]
    refine take_law0 2 (some 27) (.int .i64 n) rfl rfl (by kernel_rfl) (by kernel_rfl) (by kernel_rfl) (fun _ _ _ h => h) (Or.inl ⟨by rfl, fun w => by rfl⟩) ?_
    simp only [Act.put, List.setIfInBounds_toArray, List.set_cons_zero, List.set_cons_succ]
    have BD : Below w.heap.size w w.drew := (Below.refl _ _).drew
    refine wpAny_ready (rs := [1, 3]) (by kernel_rfl) (by simp) ?_
    refine AllReady.cons rfl (fun K hK => ?_) (AllReady.cons rfl (fun K hK => ?_) AllReady.nil)
    · refine step_callE1 _ rfl (some 26) rfl 17 (.tmp 25) #[22] rfl HCN.out v rfl _ (HMN.out _ (HV.out.below BD)) fun v1 w1 h1 => hK _ _ ?_
      obtain ⟨k, rfl, hk, hA, hb⟩ := h1
      simp only [Act.put, List.setIfInBounds_toArray, List.set_cons_zero, List.set_cons_succ]
      have C1 : Below w.heap.size w w1 := BD.trans (hb.mono BD.size)
      have lk : k < w1.heap.size := hA.lt (by rw [HBL.out.1]; omega)
      refine take_law0 4 (some 10) (.pointer (some ⟨k, 0, none⟩)) rfl rfl (by kernel_rfl) (by kernel_rfl) (by kernel_rfl) (fun _ _ _ h => h) (Or.inl ⟨by rfl, fun w => by rfl⟩) ?_
      simp only [Act.put, List.setIfInBounds_toArray, List.set_cons_zero, List.set_cons_succ]
      refine wpAny_ready (rs := [3]) (by kernel_rfl) (by simp) ?_
      refine AllReady.cons rfl (fun K hK => ?_) AllReady.nil
      refine step_make _ rfl (some 28) rfl (.tmp 27) (.tmp 27) rfl w1.heap.size (Nat.le_refl _) _ n rfl rfl rfl (by omega) fun w2 hO b2 l2 => hK _ _ ?_
      simp only [Act.put, List.setIfInBounds_toArray, List.set_cons_zero, List.set_cons_succ]
      refine take_law0 5 (some 11) (.slice (some ⟨w1.heap.size, 0, none⟩) n n) rfl rfl (by kernel_rfl) (by kernel_rfl) (by kernel_rfl) (fun _ _ _ h => h) (Or.inl ⟨by rfl, fun w => by rfl⟩) ?_
      simp only [Act.put, List.setIfInBounds_toArray, List.set_cons_zero, List.set_cons_succ]
      refine wpAny_done (by kernel_rfl) ?_ _
      have HA2 : Hid (Ar w2 k 0 .u8 bl) := hA.below b2 lk
      have HO2 : Hid (Ar w2 w1.heap.size 0 .u8 (OT 0)) := by rw [HO0.out]; exact hO.ar
      have C2 : Below w.heap.size w w2 := C1.trans (b2.mono C1.size)
      have s1 := C1.size
      clear hA hO
      go_wp2_with fail
      go_meet
      exact ⟨_, _, rfl, rfl, by omega, s1, HA2.out, HO2.out, C2⟩
    · refine step_make _ rfl (some 28) rfl (.tmp 27) (.tmp 27) rfl w.heap.size BD.size _ n rfl rfl rfl (by omega) fun w1 hO b1 l1 => hK _ _ ?_
      simp only [Act.put, List.setIfInBounds_toArray, List.set_cons_zero, List.set_cons_succ]
      have C1 : Below w.heap.size w w1 := BD.trans b1
      refine wpAny_ready (rs := [1]) (by kernel_rfl) (by simp) ?_
      refine AllReady.cons rfl (fun K hK => ?_) AllReady.nil
      refine step_callE1 _ rfl (some 26) rfl 17 (.tmp 25) #[22] rfl HCN.out v rfl _ (HMN.out _ (HV.out.below C1)) fun v1 w2 h1 => hK _ _ ?_
      obtain ⟨k, rfl, hk, hA, hb⟩ := h1
      simp only [Act.put, List.setIfInBounds_toArray, List.set_cons_zero, List.set_cons_succ]
      refine take_law0 4 (some 10) (.pointer (some ⟨k, 0, none⟩)) rfl rfl (by kernel_rfl) (by kernel_rfl) (by kernel_rfl) (fun _ _ _ h => h) (Or.inl ⟨by rfl, fun w => by rfl⟩) ?_
      simp only [Act.put, List.setIfInBounds_toArray, List.set_cons_zero, List.set_cons_succ]
      refine take_law0 5 (some 11) (.slice (some ⟨w.drew.heap.size, 0, none⟩) n n) rfl rfl (by kernel_rfl) (by kernel_rfl) (by kernel_rfl) (fun _ _ _ h => h) (Or.inl ⟨by rfl, fun w => by rfl⟩) ?_
      simp only [Act.put, List.setIfInBounds_toArray, List.set_cons_zero, List.set_cons_succ]
      refine wpAny_done (by kernel_rfl) ?_ _
      have l1' : w.heap.size < w1.heap.size := l1
      have HA2 : Hid (Ar w2 k 0 .u8 bl) := hA
      have HO2 : Hid (Ar w2 w.heap.size 0 .u8 (OT 0)) := by rw [HO0.out]; exact hO.ar.below hb l1'
      have C2 : Below w.heap.size w w2 := C1.trans (hb.mono C1.size)
      clear hA hO
      go_wp2_with fail
      go_meet
      exact ⟨_, _, rfl, rfl, by omega, Nat.le_refl _, HA2.out, HO2.out, C2⟩
  case rest =>
    obtain ⟨kk, g, rfl, rfl, hne, hg, AK, AO, BC⟩ := hcut
    have HAK : Hid (Ar wc kk 0 .u8 bl) := AK
    have HAO : Hid (Ar wc g 0 .u8 (OT 0)) := AO
    clear AK AO
    go_wp2
    go_loopw [33] (fun i wr => ∃ k : Nat, k ≤ K ∧ i = .int .i64 k ∧ Ar wr kk 0 .u8 bl ∧ Ar wr g 0 .u8 (OT k) ∧ Below w.heap.size w wr) (fun i _ => K - (intOf i).toNat)
    case atStart => exact ⟨0, Nat.zero_le _, rfl, HAK.out, HAO.out, BC⟩
    case round =>
      obtain ⟨k, hk, rfl, hAK, hAO, hbel⟩ := hrel
      have k0 : (0 : Int) ≤ (k : Int) := by omega
      have q1 : IntKind.i64.wrap (k : Int) = k := by rw [IntKind.wrap_i64]; omega
      have hsz := hbel.size
      by_cases hlt : k < K
      · have hkn := HKn.out k hlt
        have k1 : (k : Int) < (K : Int) := by omega
        obtain ⟨p, hp⟩ : ∃ p, p = 32 * k := ⟨_, rfl⟩
        have p1 : 32 * (k : Int) = (p : Int) := by omega
        have p2 : IntKind.i64.wrap (p : Int) = (p : Int) := by rw [IntKind.wrap_i64]; omega
        have p3 : (p : Int) ≤ (n : Int) := by omega
        have p4 : ¬ n = p := by omega
        have p5 : (0 : Int) ≤ (p : Int) := by omega
        have HPN : Hid (p < n) := by rw [hp]; exact hkn
        have HLY : Hid (laid (OT k) p ((f (k + 1)).take (n - p)) = OT (k + 1)) := by rw [hp]; exact HOY.out k hkn
        have lkk : kk < wr.heap.size := hAK.lt (by rw [HBL.out.1]; omega)
        have lg : g < wr.heap.size := hAO.lt (by rw [HOL.out]; omega)
        have HAK2 : Hid (Ar wr kk 0 .u8 bl) := hAK
        have HAO2 : Hid (Ar wr g 0 .u8 (OT k)) := hAO
        have HKV : Hid (KeyV wr.drew (.pointer (some ⟨kk, 0, none⟩)) bl) := Or.inr ⟨kk, rfl, HAK2.out.heap rfl, HBL.out.1, HBL.out.2⟩
        have HUr : Hid (Byt wr.drew u ss) := HU.out.below hbel.drew
        have HT : Hid (wr.there g p (n - p)) := by
          intro j hj
          have := hAO.2 (p + j) (by rw [HOL.out]; omega)
          rwa [Nat.zero_add] at this
        have hk9 : k ≤ 999 := by omega
        have q4 : IntKind.i64.wrap ((k : Int) + 1) = (k : Int) + 1 := by rw [IntKind.wrap_i64]; omega
        clear hAK hAO hkn hp
        go_wp2
        go_region_held3 (fun w' => w'.there g p (n - p))
          (first | with_reducible exact World.there_setCells T1 _ _ _ | with_reducible exact T1 | with_reducible exact (World.there_drew ..).2 HT.out)
          (first
            | (go_at_call 18; refine (HDB.out _ _ k HKV.out HUr.out hk9).mono ?_; rintro e w3 ⟨g3, cp, rfl, hg3, hcp, hcp2, hA3, hb3⟩; have HA3 : Ar w3 g 0 .u8 (OT k) := Ar.below (w := wr.drew) (HAO2.out.heap rfl) hb3 lg; have HK3 : Ar w3 kk 0 .u8 bl := Ar.below (w := wr.drew) (HAK2.out.heap rfl) hb3 lkk; have T1 : w3.there g p (n - p) := (by intro j hj; have := HA3.2 (p + j) (by rw [HOL.out]; have := HPN.out; omega); rwa [Nat.zero_add] at this); have hv3 : Byt w3 (.slice (some ⟨g3, 0, none⟩) 32 cp) (f (k + 1)) := ar32_byt hA3 (HDL.out _).2 (HDL.out _).1 cp hcp hcp2)
            | (refine step_copy _ rfl (some 46) rfl (.tmp 39) (.tmp 45) rfl g p (n - p) (n - p) (.slice (some ⟨g3, 0, none⟩) 32 cp) (f (k + 1)) rfl rfl hv3 (by intro j hj; exact T1 j (by omega)) ?_)
            | fail)
        have hl2 : ((f (k + 1)).take (n - p)).length ≤ n - p := List.length_take_le _ _
        have A4 : Ar (w3.setCells g p (((f (k + 1)).take (n - p)).map (Value.int .u8))) g 0 .u8 (OT (k + 1)) := by
          have := HA3.lay p ((f (k + 1)).take (n - p)) (by rw [HOL.out]; have := HPN.out; omega)
          rw [HLY.out, Nat.zero_add] at this
          exact this
        have K4' : Ar (w3.setCells g p (((f (k + 1)).take (n - p)).map (Value.int .u8))) kk 0 .u8 bl := HK3.apart _ _ _ (Or.inl hne)
        have B4 : Below w.heap.size w (w3.setCells g p (((f (k + 1)).take (n - p)).map (Value.int .u8))) := Lib.below_setCells _ hg _ _ (hbel.drew.trans (hb3.mono hbel.size))
        generalize w3.setCells g p (((f (k + 1)).take (n - p)).map (Value.int .u8)) = w4 at A4 K4' B4 ⊢
        have HA4 : Hid (Ar w4 g 0 .u8 (OT (k + 1))) := A4
        have HK4 : Hid (Ar w4 kk 0 .u8 bl) := K4'
        clear A4 K4' hA3 HA3 HK3 T1 hv3 hl2
        go_wp2
        go_roundw
        case rel => exact ⟨k + 1, by omega, by go_num, HK4.out, HA4.out, B4⟩
        case measure => simp [intOf]; omega
      · have hkK : k = K := by omega
        subst hkK
        rw [← HDR.out] at hAO
        have HB : Hid (Byt wr (.slice (some ⟨g, 0, none⟩) n n) R) := by
          have := hAO.byt HRA.out.1 0 n n (by omega) (by rw [HRA.out.2]; omega) (by omega) (by omega)
          rw [List.take_of_length_le (by rw [HRA.out.2]; omega), List.drop_zero] at this
          exact this
        clear hAO
        go_wp2
        go_ret2
        exact ⟨_, rfl, HB.out, hbel⟩
end Go.Proofs.Ytaplllonomdgeaa
