/- What the reference's Encrypt and Decrypt answer. No claim of its own. -/
import Derived.Test.YtjiddmgnkldmkaaRRnd
import Derived.Test.YtjiddmgnkldmkaaRShf
namespace Go.Proofs.Ytjiddmgnkldmkaa
open Go.RowKit

set_option maxRecDepth 20000 in
set_option maxHeartbeats 8000000 in
theorem rencrypt_any (kv bv tv : Value) (key bs : List Int) (w : World) (hk : Byt w kv key) (hkl : key.length = 32) (hb : Byt w bv bs) (hbl : bs.length = 16) (ht : Byt w tv ptab) :
    Calls Try.prog 22 #[kv, bv, tv] w fun e w' => ∃ v', e = .returned v' ∧ Byt w' v' (encr key bs) ∧ Below w.heap.size w w' := by
  have hka := hk.all
  have hbb : Blk bs := ⟨hbl, hb.all⟩
  have HK : Hid (Byt w kv key) := hk
  have HB : Hid (Byt w bv bs) := hb
  have HT : Hid (Byt w tv ptab) := ht
  have S1 : Hid (∀ v tv w0, Byt w0 v key → Byt w0 tv ptab → Calls Try.prog 38 #[v, tv] w0 fun e w' => ∃ v', e = .returned v' ∧ Wds w' v' key ∧ Below w0.heap.size w0 w') := fun v tv w0 h h' => rexpand_any v tv key w0 h hkl h'
  have S2 : Hid (∀ v r w0, Wds w0 v key → r ≤ 14 → Calls Try.prog 40 #[v, .int .i64 (r : Nat)] w0 fun e w' => ∃ v', e = .returned v' ∧ Byt w' v' (rk key r) ∧ Below w0.heap.size w0 w') := fun v r w0 h hr => rround_any v key r w0 h hkl hka hr
  have S3 : Hid (∀ va vb xs ys w0, Blk xs → Blk ys → Byt w0 va xs → Byt w0 vb ys → Calls Try.prog 39 #[va, vb] w0 fun e w' => ∃ v, e = .returned v ∧ Byt w' v (xorl xs ys) ∧ Below w0.heap.size w0 w') := fun va vb xs ys w0 hx hy h h' => rxor_any va vb xs ys w0 h h' (by rw [hx.1, hy.1]) (by rw [hx.1]; omega)
  have S4 : Hid (∀ v tv xs w0, Blk xs → Byt w0 v xs → Byt w0 tv ptab → Calls Try.prog 42 #[v, tv] w0 fun e w' => ∃ v', e = .returned v' ∧ Byt w' v' (looked ptab xs) ∧ Below w0.heap.size w0 w') := fun v tv xs w0 hx h h' => rput_any v tv xs ptab w0 h h' ptab_len (by rw [hx.1]; omega)
  have S5 : Hid (∀ v xs w0, Blk xs → Byt w0 v xs → Calls Try.prog 41 #[v, .int .i64 1] w0 fun e w' => ∃ v', e = .returned v' ∧ Byt w' v' (shl16 xs 1) ∧ Below w0.heap.size w0 w') := fun v xs w0 hx h => (rshift_any v xs 1 w0 h hx.1 (by omega)).mono fun _ _ ⟨g, he, hA, _, hbl⟩ => ⟨_, he, hA.bytG (shl16_all _ _ hx.2) 16 16 (shl16_len _ _) (by omega) (by omega), hbl⟩
  have S6 : Hid (∀ v xs w0, Blk xs → Byt w0 v xs → Calls Try.prog 43 #[v, .agg (ints .u8 (cI mixW))] w0 fun e w' => ∃ v', e = .returned v' ∧ Byt w' v' (mixb xs mixW) ∧ Below w0.heap.size w0 w') := fun v xs w0 hx h => rmixed_any v xs mixW w0 h hx.1 mixW_col
  have HMW : Hid (ints .u8 (cI mixW) = #[.int .u8 2, .int .u8 3, .int .u8 1, .int .u8 1]) := rfl
  have HEB : Hid (∀ r, Blk (enc key bs r)) := fun r => enc_blk key hkl hka bs hbb r
  have HKB : Hid (∀ r, Blk (rk key r)) := fun r => rk_blk key hkl hka r
  have HBB : Hid (Blk bs) := hbb
  have HPB : Hid (∀ xs, Blk xs → Blk (looked ptab xs)) := fun xs h => looked_blk ptab xs pAll h.1
  have HE0 : Hid (enc key bs 0 = xorl bs (rk key 0)) := rfl
  have HES : Hid (∀ r, r < 13 → enc key bs (r + 1) = xorl (mixb (shl16 (looked ptab (enc key bs r)) 1) mixW) (rk key (r + 1))) := fun r hr => by
    rw [enc, fw, mx, if_pos (by omega)]
  have HEL : Hid (encr key bs = xorl (shl16 (looked ptab (enc key bs 13)) 1) (rk key 14)) := by
    show _ = _
    rw [encr, enc, fw, mx, if_neg (by omega)]
  have HZ : Hid (encr key bs = enc key bs 14) := rfl
  generalize encr key bs = zs at *
  generalize ptab = tab at *
  clear hk hb ht hka hbb hkl hbl
  go_enter Try.func22, Try.ntmps22
  go_wp2_with (first
    | (go_at_call 39; refine (S3.out _ _ bs (rk key 0) _ HBB.out (HKB.out 0) (HB2.out) R2.out).mono ?_; rintro e w3 ⟨v3, rfl, y3, B3⟩; have Y3 : Hid (Byt w3 v3 (enc key bs 0)) := (by rw [HE0.out]; exact y3); have BC : Hid (Below w1.heap.size w1 w3) := BC2.out.trans (B3.mono BC2.out.size); clear y3 B3)
    | (go_at_call 40; refine (S2.out _ 0 _ D1.out (by omega)).mono ?_; rintro e w2 ⟨v2, rfl, y2, B2⟩; have R2 : Hid (Byt w2 v2 (rk key 0)) := y2; have HB2 : Hid (Byt w2 bv bs) := (HB.out.below B1).below B2; have BC2 : Hid (Below w1.heap.size w1 w2) := B2; clear y2 B2)
    | (go_at_call 38; refine (S1.out _ _ _ HK.out HT.out).mono ?_; rintro e w1 ⟨wv, rfl, d1, B1⟩; have D1 : Hid (Wds w1 wv key) := d1; have T1 : Hid (Byt w1 tv tab) := HT.out.below B1; clear d1))
  clear HK HB HT S1
  go_loopw [8, 9] (fun v i wr => ∃ r : Nat, 1 ≤ r ∧ r ≤ 15 ∧ i = .int .i64 r ∧ Byt wr v (enc key bs (r - 1)) ∧ Below w1.heap.size w1 wr) (fun _ i _ => 15 - (intOf i).toNat)
  case atStart => exact ⟨1, Nat.le_refl _, by omega, rfl, Y3.out, BC.out⟩
  case round =>
    obtain ⟨r, hr1, hr, rfl, hY, hB⟩ := hrel
    clear Y3 BC R2 HB2 BC2
    have q0 : (0 : Int) ≤ (r : Int) := by omega
    have q1 : IntKind.i64.wrap (r : Int) = r := by rw [IntKind.wrap_i64]; omega
    by_cases hlt : r ≤ 14
    · have k1 : (r : Int) ≤ 14 := by omega
      have Y0 : Hid (Byt wr u8 (enc key bs (r - 1))) := hY
      have BB : Hid (Below w1.heap.size w1 wr) := hB
      have sb0 := HEB.out (r - 1)
      have sb1 := HPB.out _ sb0
      have sb2 := shl16_blk _ 1 sb1
      have Q0 : Hid (Blk (enc key bs (r - 1))) := sb0
      have Q1 : Hid (Blk (looked tab (enc key bs (r - 1)))) := sb1
      have Q2 : Hid (Blk (shl16 (looked tab (enc key bs (r - 1))) 1)) := sb2
      have QK : Hid (Blk (rk key r)) := HKB.out r
      clear hY sb0 sb1 sb2
      by_cases hlt2 : r < 14
      · have k2 : (r : Int) < 14 := by omega
        have Q3 : Hid (Blk (mixb (shl16 (looked tab (enc key bs (r - 1))) 1) mixW)) := mixb_blk _ _ mixW_col
        have EN : Hid (enc key bs (r + 1 - 1) = xorl (mixb (shl16 (looked tab (enc key bs (r - 1))) 1) mixW) (rk key r)) := by
          have e := HES.out (r - 1) (by omega)
          rw [show r - 1 + 1 = r by omega] at e
          exact e
        go_wp2_with (first
          | (go_at_call 39; refine (S3.out _ _ (mixb (shl16 (looked tab (enc key bs (r - 1))) 1) mixW) (rk key r) _ Q3.out QK.out Ye.out Yd.out).mono ?_; rintro e we ⟨ve, rfl, ye, B_⟩; have Yf : Hid (Byt we ve (enc key bs (r + 1 - 1))) := (by rw [EN.out]; exact ye); have BB : Hid (Below w1.heap.size w1 we) := BB.out.trans (B_.mono BB.out.size); clear ye B_)
          | (go_at_call 40; refine (S2.out _ r _ (D1.out.below BB.out) hlt).mono ?_; rintro e wd_ ⟨vd, rfl, yd, B_⟩; have Yd : Hid (Byt wd_ vd (rk key r)) := yd; have Ye : Hid (Byt wd_ _ (mixb (shl16 (looked tab (enc key bs (r - 1))) 1) mixW)) := Yc.out.below B_; have BB : Hid (Below w1.heap.size w1 wd_) := BB.out.trans (B_.mono BB.out.size); clear yd B_)
          | (go_at_call 43; refine (S6.out _ (shl16 (looked tab (enc key bs (r - 1))) 1) _ Q2.out Yb.out).mono ?_; rintro e wc ⟨vc, rfl, yc, B_⟩; have Yc : Hid (Byt wc vc (mixb (shl16 (looked tab (enc key bs (r - 1))) 1) mixW)) := yc; have BB : Hid (Below w1.heap.size w1 wc) := BB.out.trans (B_.mono BB.out.size); clear yc B_)
          | (refine build_law _ rfl 48 _ rfl (.agg (ints .u8 (cI mixW))) (by kernel_rfl) ?_)
          | (go_at_call 41; refine (S5.out _ (looked tab (enc key bs (r - 1))) _ Q1.out Ya.out).mono ?_; rintro e wb ⟨vb, rfl, yb, B_⟩; have Yb : Hid (Byt wb vb (shl16 (looked tab (enc key bs (r - 1))) 1)) := yb; have BB : Hid (Below w1.heap.size w1 wb) := BB.out.trans (B_.mono BB.out.size); clear yb B_)
          | (go_at_call 42; refine (S4.out _ _ (enc key bs (r - 1)) _ Q0.out Y0.out (T1.out.below BB.out)).mono ?_; rintro e wa ⟨va, rfl, ya, B_⟩; have Ya : Hid (Byt wa va (looked tab (enc key bs (r - 1)))) := ya; have BB : Hid (Below w1.heap.size w1 wa) := BB.out.trans (B_.mono BB.out.size); clear ya B_))
        go_roundw
        case rel => exact ⟨r + 1, by omega, by omega, by go_num, Yf.out, BB.out⟩
        case measure => simp [intOf]; omega
      · have k2 : ¬ (r : Int) < 14 := by omega
        have EN : Hid (enc key bs (r + 1 - 1) = xorl (shl16 (looked tab (enc key bs (r - 1))) 1) (rk key r)) := by
          have : r = 14 := by omega
          subst this
          have e := HEL.out
          rw [HZ.out] at e
          exact e
        go_wp2_with (first
          | (go_at_call 39; refine (S3.out _ _ (shl16 (looked tab (enc key bs (r - 1))) 1) (rk key r) _ Q2.out QK.out Ye.out Yd.out).mono ?_; rintro e we ⟨ve, rfl, ye, B_⟩; have Yf : Hid (Byt we ve (enc key bs (r + 1 - 1))) := (by rw [EN.out]; exact ye); have BB : Hid (Below w1.heap.size w1 we) := BB.out.trans (B_.mono BB.out.size); clear ye B_)
          | (go_at_call 40; refine (S2.out _ r _ (D1.out.below BB.out) hlt).mono ?_; rintro e wd_ ⟨vd, rfl, yd, B_⟩; have Yd : Hid (Byt wd_ vd (rk key r)) := yd; have Ye : Hid (Byt wd_ _ (shl16 (looked tab (enc key bs (r - 1))) 1)) := Yb.out.below B_; have BB : Hid (Below w1.heap.size w1 wd_) := BB.out.trans (B_.mono BB.out.size); clear yd B_)
          | (go_at_call 41; refine (S5.out _ (looked tab (enc key bs (r - 1))) _ Q1.out Ya.out).mono ?_; rintro e wb ⟨vb, rfl, yb, B_⟩; have Yb : Hid (Byt wb vb (shl16 (looked tab (enc key bs (r - 1))) 1)) := yb; have BB : Hid (Below w1.heap.size w1 wb) := BB.out.trans (B_.mono BB.out.size); clear yb B_)
          | (go_at_call 42; refine (S4.out _ _ (enc key bs (r - 1)) _ Q0.out Y0.out (T1.out.below BB.out)).mono ?_; rintro e wa ⟨va, rfl, ya, B_⟩; have Ya : Hid (Byt wa va (looked tab (enc key bs (r - 1)))) := ya; have BB : Hid (Below w1.heap.size w1 wa) := BB.out.trans (B_.mono BB.out.size); clear ya B_))
        go_roundw
        case rel => exact ⟨r + 1, by omega, by omega, by go_num, Yf.out, BB.out⟩
        case measure => simp [intOf]; omega
    · have hr15 : r = 15 := by omega
      have kn : ¬ (r : Int) ≤ 14 := by omega
      have YZ : Hid (Byt wr u8 zs) := by
        rw [HZ.out]
        have h := hY
        rw [hr15] at h
        exact h
      clear hY
      go_wp2
      go_ret
      exact ⟨_, rfl, YZ.out, B1.trans (hB.mono B1.size)⟩

set_option maxRecDepth 20000 in
set_option maxHeartbeats 8000000 in
theorem rdecrypt_any (kv bv tv : Value) (key bs : List Int) (w : World) (hk : Byt w kv key) (hkl : key.length = 32) (hb : Byt w bv bs) (hbl : bs.length = 16) (ht : Byt w tv ptab) :
    Calls Try.prog 29 #[kv, bv, tv] w fun e w' => ∃ v', e = .returned v' ∧ Byt w' v' (decr key bs) ∧ Below w.heap.size w w' := by
  have hka := hk.all
  have hbb : Blk bs := ⟨hbl, hb.all⟩
  have HK : Hid (Byt w kv key) := hk
  have HB : Hid (Byt w bv bs) := hb
  have HT : Hid (Byt w tv ptab) := ht
  have S1 : Hid (∀ v tv w0, Byt w0 v key → Byt w0 tv ptab → Calls Try.prog 38 #[v, tv] w0 fun e w' => ∃ v', e = .returned v' ∧ Wds w' v' key ∧ Below w0.heap.size w0 w') := fun v tv w0 h h' => rexpand_any v tv key w0 h hkl h'
  have S7 : Hid (∀ tv w0, Byt w0 tv ptab → Calls Try.prog 48 #[tv] w0 fun e w' => ∃ v', e = .returned v' ∧ Byt w' v' btab ∧ Below w0.heap.size w0 w') := fun tv w0 h => rturnedT_any tv w0 h
  have S2 : Hid (∀ v r w0, Wds w0 v key → r ≤ 14 → Calls Try.prog 40 #[v, .int .i64 (r : Nat)] w0 fun e w' => ∃ v', e = .returned v' ∧ Byt w' v' (rk key r) ∧ Below w0.heap.size w0 w') := fun v r w0 h hr => rround_any v key r w0 h hkl hka hr
  have S3 : Hid (∀ va vb xs ys w0, Blk xs → Blk ys → Byt w0 va xs → Byt w0 vb ys → Calls Try.prog 39 #[va, vb] w0 fun e w' => ∃ v, e = .returned v ∧ Byt w' v (xorl xs ys) ∧ Below w0.heap.size w0 w') := fun va vb xs ys w0 hx hy h h' => rxor_any va vb xs ys w0 h h' (by rw [hx.1, hy.1]) (by rw [hx.1]; omega)
  have S4 : Hid (∀ v tv xs w0, Blk xs → Byt w0 v xs → Byt w0 tv btab → Calls Try.prog 42 #[v, tv] w0 fun e w' => ∃ v', e = .returned v' ∧ Byt w' v' (looked btab xs) ∧ Below w0.heap.size w0 w') := fun v tv xs w0 hx h h' => rput_any v tv xs btab w0 h h' btab_len (by rw [hx.1]; omega)
  have S5 : Hid (∀ v xs w0, Blk xs → Byt w0 v xs → Calls Try.prog 41 #[v, .int .i64 3] w0 fun e w' => ∃ v', e = .returned v' ∧ Byt w' v' (shl16 xs 3) ∧ Below w0.heap.size w0 w') := fun v xs w0 hx h => (rshift_any v xs 3 w0 h hx.1 (by omega)).mono fun _ _ ⟨g, he, hA, _, hbl⟩ => ⟨_, he, hA.bytG (shl16_all _ _ hx.2) 16 16 (shl16_len _ _) (by omega) (by omega), hbl⟩
  have S6 : Hid (∀ v xs w0, Blk xs → Byt w0 v xs → Calls Try.prog 43 #[v, .agg (ints .u8 (cI unmW))] w0 fun e w' => ∃ v', e = .returned v' ∧ Byt w' v' (mixb xs unmW) ∧ Below w0.heap.size w0 w') := fun v xs w0 hx h => rmixed_any v xs unmW w0 h hx.1 unmW_col
  have HEB : Hid (∀ k, Blk (dec key bs k)) := fun k => dec_blk key bs hbb k
  have HKB : Hid (∀ r, Blk (rk key r)) := fun r => rk_blk key hkl hka r
  have HES : Hid (∀ r, 1 ≤ r → r < 14 → dec key bs (14 - (r - 1)) = looked btab (shl16 (mixb (xorl (dec key bs (14 - r)) (rk key r)) unmW) 3)) := fun r hr1 hr => by
    rw [show 14 - (r - 1) = (14 - r) + 1 by omega, dec, show 14 - (14 - r) = r by omega, bw, um, if_pos hr]
  have HEF : Hid (∀ r, r = 14 → dec key bs (14 - (r - 1)) = looked btab (shl16 (xorl (dec key bs (14 - r)) (rk key r)) 3)) := fun r hr => by
    subst hr
    show looked btab (shl16 (um 14 (xorl (dec key bs 0) (rk key 14))) 3) = looked btab (shl16 (xorl (dec key bs 0) (rk key 14)) 3)
    rw [um, if_neg (by omega)]
  have HEL : Hid (decr key bs = xorl (dec key bs 14) (rk key 0)) := rfl
  have HD0 : Hid (dec key bs 0 = bs) := rfl
  generalize decr key bs = zs at *
  generalize ptab = tab at *
  generalize btab = btb at *
  clear hk hb ht hka hbb hkl hbl
  go_enter Try.func29, Try.ntmps29
  go_wp2_with (first
    | (go_at_call 48; refine (S7.out _ _ T1.out).mono ?_; rintro e w2 ⟨tb2, rfl, y2, B2⟩; have TB : Hid (Byt w2 tb2 btb) := y2; have D2_ : Hid (Wds w2 wv key) := D1.out.below B2; have Y2 : Hid (Byt w2 bv (dec key bs 0)) := (by rw [HD0.out]; exact (HB.out.below B1).below B2); clear y2)
    | (go_at_call 38; refine (S1.out _ _ _ HK.out HT.out).mono ?_; rintro e w1 ⟨wv, rfl, d1, B1⟩; have D1 : Hid (Wds w1 wv key) := d1; have T1 : Hid (Byt w1 tv tab) := HT.out.below B1; clear d1))
  have B12 : Below w.heap.size w w2 := B1.trans (B2.mono B1.size)
  clear HK HB HT S1 S7 D1 T1
  go_loopw [9, 10] (fun v i wr => ∃ r : Nat, r ≤ 14 ∧ i = .int .i64 r ∧ Byt wr v (dec key bs (14 - r)) ∧ Below w2.heap.size w2 wr) (fun _ i _ => (intOf i).toNat)
  case atStart => exact ⟨14, Nat.le_refl _, rfl, Y2.out, Below.refl _ _⟩
  case round =>
    obtain ⟨r, hr, rfl, hY, hB⟩ := hrel
    clear Y2
    have q0 : (0 : Int) ≤ (r : Int) := by omega
    have q1 : IntKind.i64.wrap (r : Int) = r := by rw [IntKind.wrap_i64]; omega
    have Y0 : Hid (Byt wr u9 (dec key bs (14 - r))) := hY
    have BB : Hid (Below w2.heap.size w2 wr) := hB
    have Q0 : Hid (Blk (dec key bs (14 - r))) := HEB.out _
    have QK : Hid (Blk (rk key r)) := HKB.out r
    clear hY
    by_cases hlt : 1 ≤ r
    · have k1 : (1 : Int) ≤ (r : Int) := by omega
      have Q1 : Hid (Blk (xorl (dec key bs (14 - r)) (rk key r))) := xorl_blk _ _ Q0.out QK.out
      obtain ⟨r1, hr1⟩ : ∃ q, q = r - 1 := ⟨_, rfl⟩
      have t1 : (r : Int) - 1 = (r1 : Int) := by omega
      have t2 : IntKind.i64.wrap (r1 : Int) = r1 := by rw [IntKind.wrap_i64]; omega
      by_cases hlt2 : r < 14
      · have k2 : (r : Int) < 14 := by omega
        have Q2 : Hid (Blk (mixb (xorl (dec key bs (14 - r)) (rk key r)) unmW)) := mixb_blk _ _ unmW_col
        have Q3 : Hid (Blk (shl16 (mixb (xorl (dec key bs (14 - r)) (rk key r)) unmW) 3)) := shl16_blk _ 3 Q2.out
        have EN : Hid (dec key bs (14 - (r - 1)) = looked btb (shl16 (mixb (xorl (dec key bs (14 - r)) (rk key r)) unmW) 3)) := HES.out r hlt hlt2
        go_wp2_with (first
          | (go_at_call 42; refine (S4.out _ _ (shl16 (mixb (xorl (dec key bs (14 - r)) (rk key r)) unmW) 3) _ Q3.out Yd.out (TB.out.below BB.out)).mono ?_; rintro e we ⟨ve, rfl, ye, B_⟩; have Yf : Hid (Byt we ve (dec key bs (14 - (r - 1)))) := (by rw [EN.out]; exact ye); have BB : Hid (Below w2.heap.size w2 we) := BB.out.trans (B_.mono BB.out.size); clear ye B_)
          | (go_at_call 41; refine (S5.out _ (mixb (xorl (dec key bs (14 - r)) (rk key r)) unmW) _ Q2.out Yc.out).mono ?_; rintro e wd_ ⟨vd, rfl, yd, B_⟩; have Yd : Hid (Byt wd_ vd (shl16 (mixb (xorl (dec key bs (14 - r)) (rk key r)) unmW) 3)) := yd; have BB : Hid (Below w2.heap.size w2 wd_) := BB.out.trans (B_.mono BB.out.size); clear yd B_)
          | (go_at_call 43; refine (S6.out _ (xorl (dec key bs (14 - r)) (rk key r)) _ Q1.out Yb.out).mono ?_; rintro e wc ⟨vc, rfl, yc, B_⟩; have Yc : Hid (Byt wc vc (mixb (xorl (dec key bs (14 - r)) (rk key r)) unmW)) := yc; have BB : Hid (Below w2.heap.size w2 wc) := BB.out.trans (B_.mono BB.out.size); clear yc B_)
          | (refine build_law _ rfl 48 _ rfl (.agg (ints .u8 (cI unmW))) (by kernel_rfl) ?_)
          | (go_at_call 39; refine (S3.out _ _ (dec key bs (14 - r)) (rk key r) _ Q0.out QK.out Y0a.out Ya.out).mono ?_; rintro e wb ⟨vb, rfl, yb, B_⟩; have Yb : Hid (Byt wb vb (xorl (dec key bs (14 - r)) (rk key r))) := yb; have BB : Hid (Below w2.heap.size w2 wb) := BB.out.trans (B_.mono BB.out.size); clear yb B_)
          | (go_at_call 40; refine (S2.out _ r _ (D2_.out.below BB.out) hr).mono ?_; rintro e wa ⟨va, rfl, ya, B_⟩; have Ya : Hid (Byt wa va (rk key r)) := ya; have Y0a : Hid (Byt wa _ (dec key bs (14 - r))) := Y0.out.below B_; have BB : Hid (Below w2.heap.size w2 wa) := BB.out.trans (B_.mono BB.out.size); clear ya B_))
        go_roundw
        case rel => exact ⟨r1, by omega, by rw [hr1], by rw [hr1]; exact Yf.out, BB.out⟩
        case measure => simp [intOf]; omega
      · have k2 : ¬ (r : Int) < 14 := by omega
        have Q3 : Hid (Blk (shl16 (xorl (dec key bs (14 - r)) (rk key r)) 3)) := shl16_blk _ 3 Q1.out
        have EN : Hid (dec key bs (14 - (r - 1)) = looked btb (shl16 (xorl (dec key bs (14 - r)) (rk key r)) 3)) := HEF.out r (by omega)
        go_wp2_with (first
          | (go_at_call 42; refine (S4.out _ _ (shl16 (xorl (dec key bs (14 - r)) (rk key r)) 3) _ Q3.out Yd.out (TB.out.below BB.out)).mono ?_; rintro e we ⟨ve, rfl, ye, B_⟩; have Yf : Hid (Byt we ve (dec key bs (14 - (r - 1)))) := (by rw [EN.out]; exact ye); have BB : Hid (Below w2.heap.size w2 we) := BB.out.trans (B_.mono BB.out.size); clear ye B_)
          | (go_at_call 41; refine (S5.out _ (xorl (dec key bs (14 - r)) (rk key r)) _ Q1.out Yb.out).mono ?_; rintro e wd_ ⟨vd, rfl, yd, B_⟩; have Yd : Hid (Byt wd_ vd (shl16 (xorl (dec key bs (14 - r)) (rk key r)) 3)) := yd; have BB : Hid (Below w2.heap.size w2 wd_) := BB.out.trans (B_.mono BB.out.size); clear yd B_)
          | (go_at_call 39; refine (S3.out _ _ (dec key bs (14 - r)) (rk key r) _ Q0.out QK.out Y0a.out Ya.out).mono ?_; rintro e wb ⟨vb, rfl, yb, B_⟩; have Yb : Hid (Byt wb vb (xorl (dec key bs (14 - r)) (rk key r))) := yb; have BB : Hid (Below w2.heap.size w2 wb) := BB.out.trans (B_.mono BB.out.size); clear yb B_)
          | (go_at_call 40; refine (S2.out _ r _ (D2_.out.below BB.out) hr).mono ?_; rintro e wa ⟨va, rfl, ya, B_⟩; have Ya : Hid (Byt wa va (rk key r)) := ya; have Y0a : Hid (Byt wa _ (dec key bs (14 - r))) := Y0.out.below B_; have BB : Hid (Below w2.heap.size w2 wa) := BB.out.trans (B_.mono BB.out.size); clear ya B_))
        go_roundw
        case rel => exact ⟨r1, by omega, by rw [hr1], by rw [hr1]; exact Yf.out, BB.out⟩
        case measure => simp [intOf]; omega
    · have hr0 : r = 0 := by omega
      have kn : ¬ (1 : Int) ≤ (r : Int) := by omega
      have Y14 : Hid (Byt wr u9 (dec key bs 14)) := by
        have h := Y0.out
        rw [hr0] at h
        exact h
      clear Y0
      go_wp2_with (first
        | (go_at_call 39; refine (S3.out _ _ (dec key bs 14) (rk key 0) _ (HEB.out 14) (HKB.out 0) Y0a.out Ya.out).mono ?_; rintro e wb ⟨vb, rfl, yb, B_⟩; have Yb : Hid (Byt wb vb zs) := (by rw [HEL.out]; exact yb); have BB : Hid (Below w2.heap.size w2 wb) := BB.out.trans (B_.mono BB.out.size); clear yb B_)
        | (go_at_call 40; refine (S2.out _ 0 _ (D2_.out.below BB.out) (by omega)).mono ?_; rintro e wa ⟨va, rfl, ya, B_⟩; have Ya : Hid (Byt wa va (rk key 0)) := ya; have Y0a : Hid (Byt wa _ (dec key bs 14)) := Y14.out.below B_; have BB : Hid (Below w2.heap.size w2 wa) := BB.out.trans (B_.mono BB.out.size); clear ya B_))
      go_ret
      exact ⟨_, rfl, Yb.out, B12.trans (BB.out.mono B12.size)⟩
end Go.Proofs.Ytjiddmgnkldmkaa
