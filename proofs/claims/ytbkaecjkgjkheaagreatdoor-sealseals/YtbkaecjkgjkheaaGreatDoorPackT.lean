/- Texts put together (a claim holds few files). No claim of its own. -/
import Derived.Test.YtbkaecjkgjkheaaGreatDoorPackS
import Derived.Test.YtbkaecjkgjkheaaGreatDoorPackG
import Derived.Laws.AppendOwnNone
/- What the reference's Encrypt and Decrypt answer. No claim of its own. -/
namespace Go.Proofs.YtbkaecjkgjkheaaGreatDoor
open Go.RowKit
set_option maxRecDepth 20000

set_option maxRecDepth 20000 in
set_option maxHeartbeats 8000000 in
theorem rencrypt_any (kv bv tv : Value) (key bs : List Int) (w : World) (hk : Byt w kv key) (hkl : key.length = 32) (hb : Byt w bv bs) (hbl : bs.length = 16) (ht : Byt w tv ptab) :
    Calls Tryz.prog 41 #[kv, bv, tv] w fun e w' => ∃ v', e = .returned v' ∧ Byt w' v' (encr key bs) ∧ Below w.heap.size w w' := by
  have hka := hk.all
  have hbb : Blk bs := ⟨hbl, hb.all⟩
  have HK : Hid (Byt w kv key) := hk
  have HB : Hid (Byt w bv bs) := hb
  have HT : Hid (Byt w tv ptab) := ht
  have S1 : Hid (∀ v tv w0, Byt w0 v key → Byt w0 tv ptab → Calls Tryz.prog 76 #[v, tv] w0 fun e w' => ∃ v', e = .returned v' ∧ Wds w' v' key ∧ Below w0.heap.size w0 w') := fun v tv w0 h h' => rexpand_any v tv key w0 h hkl h'
  have S2 : Hid (∀ v r w0, Wds w0 v key → r ≤ 14 → Calls Tryz.prog 77 #[v, .int .i64 (r : Nat)] w0 fun e w' => ∃ v', e = .returned v' ∧ Byt w' v' (rk key r) ∧ Below w0.heap.size w0 w') := fun v r w0 h hr => rround_any v key r w0 h hkl hka hr
  have S3 : Hid (∀ va vb xs ys w0, Blk xs → Blk ys → Byt w0 va xs → Byt w0 vb ys → Calls Tryz.prog 42 #[va, vb] w0 fun e w' => ∃ v, e = .returned v ∧ Byt w' v (xorl xs ys) ∧ Below w0.heap.size w0 w') := fun va vb xs ys w0 hx hy h h' => rxor_any va vb xs ys w0 h h' (by rw [hx.1, hy.1]) (by rw [hx.1]; omega)
  have S4 : Hid (∀ v tv xs w0, Blk xs → Byt w0 v xs → Byt w0 tv ptab → Calls Tryz.prog 79 #[v, tv] w0 fun e w' => ∃ v', e = .returned v' ∧ Byt w' v' (looked ptab xs) ∧ Below w0.heap.size w0 w') := fun v tv xs w0 hx h h' => rput_any v tv xs ptab w0 h h' ptab_len (by rw [hx.1]; omega)
  have S5 : Hid (∀ v xs w0, Blk xs → Byt w0 v xs → Calls Tryz.prog 78 #[v, .int .i64 1] w0 fun e w' => ∃ v', e = .returned v' ∧ Byt w' v' (shl16 xs 1) ∧ Below w0.heap.size w0 w') := fun v xs w0 hx h => (rshift_any v xs 1 w0 h hx.1 (by omega)).mono fun _ _ ⟨g, he, hA, _, hbl⟩ => ⟨_, he, hA.bytG (shl16_all _ _ hx.2) 16 16 (shl16_len _ _) (by omega) (by omega), hbl⟩
  have S6 : Hid (∀ v xs w0, Blk xs → Byt w0 v xs → Calls Tryz.prog 80 #[v, .agg (ints .u8 (cI mixW))] w0 fun e w' => ∃ v', e = .returned v' ∧ Byt w' v' (mixb xs mixW) ∧ Below w0.heap.size w0 w') := fun v xs w0 hx h => rmixed_any v xs mixW w0 h hx.1 mixW_col
  have HMW : Hid (ints .u8 (cI mixW) = #[.int .u8 2, .int .u8 3, .int .u8 1, .int .u8 1]) := rfl
  have HEB : Hid (∀ r, Blk (enc key bs r)) := fun r => enc_blk key hkl hka bs hbb r
  have HKB : Hid (∀ r, Blk (rk key r)) := fun r => rk_blk key hkl hka r
  have HBB : Hid (Blk bs) := hbb
  have HPB : Hid (∀ xs, Blk xs → Blk (looked ptab xs)) := fun xs h => looked_blk ptab xs pAll h.1
  have HE0 : Hid (enc key bs 0 = xorl bs (rk key 0)) := rfl
  have HES : Hid (∀ r, r < 13 → enc key bs (r + 1) = xorl (mixb (shl16 (looked ptab (enc key bs r)) 1) mixW) (rk key (r + 1))) := fun r hr => by
    rw [enc, fw, mx, if_pos (by omega)]
  have HEL : Hid (encr key bs = xorl (shl16 (looked ptab (enc key bs 13)) 1) (rk key 14)) := by
    show _ = _
    rw [encr, enc, fw, mx, if_neg (by omega)]
  have HZ : Hid (encr key bs = enc key bs 14) := rfl
  generalize encr key bs = zs at *
  generalize ptab = tab at *
  clear hk hb ht hka hbb hkl hbl
  go_enter Tryz.func41, Tryz.ntmps41
  go_wp2_with (first
    | (go_at_call 42; refine (S3.out _ _ bs (rk key 0) _ HBB.out (HKB.out 0) (HB2.out) R2.out).mono ?_; rintro e w3 ⟨v3, rfl, y3, B3⟩; have Y3 : Hid (Byt w3 v3 (enc key bs 0)) := (by rw [HE0.out]; exact y3); have BC : Hid (Below w1.heap.size w1 w3) := BC2.out.trans (B3.mono BC2.out.size); clear y3 B3)
    | (go_at_call 77; refine (S2.out _ 0 _ D1.out (by omega)).mono ?_; rintro e w2 ⟨v2, rfl, y2, B2⟩; have R2 : Hid (Byt w2 v2 (rk key 0)) := y2; have HB2 : Hid (Byt w2 bv bs) := (HB.out.below B1).below B2; have BC2 : Hid (Below w1.heap.size w1 w2) := B2; clear y2 B2)
    | (go_at_call 76; refine (S1.out _ _ _ HK.out HT.out).mono ?_; rintro e w1 ⟨wv, rfl, d1, B1⟩; have D1 : Hid (Wds w1 wv key) := d1; have T1 : Hid (Byt w1 tv tab) := HT.out.below B1; clear d1))
  clear HK HB HT S1
  go_loopw [8, 9] (fun v i wr => ∃ r : Nat, 1 ≤ r ∧ r ≤ 15 ∧ i = .int .i64 r ∧ Byt wr v (enc key bs (r - 1)) ∧ Below w1.heap.size w1 wr) (fun _ i _ => 15 - (intOf i).toNat)
  case atStart => exact ⟨1, Nat.le_refl _, by omega, rfl, Y3.out, BC.out⟩
  case round =>
    obtain ⟨r, hr1, hr, rfl, hY, hB⟩ := hrel
    clear Y3 BC R2 HB2 BC2
    have q0 : (0 : Int) ≤ (r : Int) := by omega
    have q1 : IntKind.i64.wrap (r : Int) = r := by rw [IntKind.wrap_i64]; omega
    by_cases hlt : r ≤ 14
    · have k1 : (r : Int) ≤ 14 := by omega
      have Y0 : Hid (Byt wr u8 (enc key bs (r - 1))) := hY
      have BB : Hid (Below w1.heap.size w1 wr) := hB
      have sb0 := HEB.out (r - 1)
      have sb1 := HPB.out _ sb0
      have sb2 := shl16_blk _ 1 sb1
      have Q0 : Hid (Blk (enc key bs (r - 1))) := sb0
      have Q1 : Hid (Blk (looked tab (enc key bs (r - 1)))) := sb1
      have Q2 : Hid (Blk (shl16 (looked tab (enc key bs (r - 1))) 1)) := sb2
      have QK : Hid (Blk (rk key r)) := HKB.out r
      clear hY sb0 sb1 sb2
      by_cases hlt2 : r < 14
      · have k2 : (r : Int) < 14 := by omega
        have Q3 : Hid (Blk (mixb (shl16 (looked tab (enc key bs (r - 1))) 1) mixW)) := mixb_blk _ _ mixW_col
        have EN : Hid (enc key bs (r + 1 - 1) = xorl (mixb (shl16 (looked tab (enc key bs (r - 1))) 1) mixW) (rk key r)) := by
          have e := HES.out (r - 1) (by omega)
          rw [show r - 1 + 1 = r by omega] at e
          exact e
        go_wp2_with (first
          | (go_at_call 42; refine (S3.out _ _ (mixb (shl16 (looked tab (enc key bs (r - 1))) 1) mixW) (rk key r) _ Q3.out QK.out Ye.out Yd.out).mono ?_; rintro e we ⟨ve, rfl, ye, B_⟩; have Yf : Hid (Byt we ve (enc key bs (r + 1 - 1))) := (by rw [EN.out]; exact ye); have BB : Hid (Below w1.heap.size w1 we) := BB.out.trans (B_.mono BB.out.size); clear ye B_)
          | (go_at_call 77; refine (S2.out _ r _ (D1.out.below BB.out) hlt).mono ?_; rintro e wd_ ⟨vd, rfl, yd, B_⟩; have Yd : Hid (Byt wd_ vd (rk key r)) := yd; have Ye : Hid (Byt wd_ _ (mixb (shl16 (looked tab (enc key bs (r - 1))) 1) mixW)) := Yc.out.below B_; have BB : Hid (Below w1.heap.size w1 wd_) := BB.out.trans (B_.mono BB.out.size); clear yd B_)
          | (go_at_call 80; refine (S6.out _ (shl16 (looked tab (enc key bs (r - 1))) 1) _ Q2.out Yb.out).mono ?_; rintro e wc ⟨vc, rfl, yc, B_⟩; have Yc : Hid (Byt wc vc (mixb (shl16 (looked tab (enc key bs (r - 1))) 1) mixW)) := yc; have BB : Hid (Below w1.heap.size w1 wc) := BB.out.trans (B_.mono BB.out.size); clear yc B_)
          | (refine build_law _ rfl 86 _ rfl (.agg (ints .u8 (cI mixW))) (by kernel_rfl) ?_)
          | (go_at_call 78; refine (S5.out _ (looked tab (enc key bs (r - 1))) _ Q1.out Ya.out).mono ?_; rintro e wb ⟨vb, rfl, yb, B_⟩; have Yb : Hid (Byt wb vb (shl16 (looked tab (enc key bs (r - 1))) 1)) := yb; have BB : Hid (Below w1.heap.size w1 wb) := BB.out.trans (B_.mono BB.out.size); clear yb B_)
          | (go_at_call 79; refine (S4.out _ _ (enc key bs (r - 1)) _ Q0.out Y0.out (T1.out.below BB.out)).mono ?_; rintro e wa ⟨va, rfl, ya, B_⟩; have Ya : Hid (Byt wa va (looked tab (enc key bs (r - 1)))) := ya; have BB : Hid (Below w1.heap.size w1 wa) := BB.out.trans (B_.mono BB.out.size); clear ya B_))
        go_roundw
        case rel => exact ⟨r + 1, by omega, by omega, by go_num, Yf.out, BB.out⟩
        case measure => simp [intOf]; omega
      · have k2 : ¬ (r : Int) < 14 := by omega
        have EN : Hid (enc key bs (r + 1 - 1) = xorl (shl16 (looked tab (enc key bs (r - 1))) 1) (rk key r)) := by
          have : r = 14 := by omega
          subst this
          have e := HEL.out
          rw [HZ.out] at e
          exact e
        go_wp2_with (first
          | (go_at_call 42; refine (S3.out _ _ (shl16 (looked tab (enc key bs (r - 1))) 1) (rk key r) _ Q2.out QK.out Ye.out Yd.out).mono ?_; rintro e we ⟨ve, rfl, ye, B_⟩; have Yf : Hid (Byt we ve (enc key bs (r + 1 - 1))) := (by rw [EN.out]; exact ye); have BB : Hid (Below w1.heap.size w1 we) := BB.out.trans (B_.mono BB.out.size); clear ye B_)
          | (go_at_call 77; refine (S2.out _ r _ (D1.out.below BB.out) hlt).mono ?_; rintro e wd_ ⟨vd, rfl, yd, B_⟩; have Yd : Hid (Byt wd_ vd (rk key r)) := yd; have Ye : Hid (Byt wd_ _ (shl16 (looked tab (enc key bs (r - 1))) 1)) := Yb.out.below B_; have BB : Hid (Below w1.heap.size w1 wd_) := BB.out.trans (B_.mono BB.out.size); clear yd B_)
          | (go_at_call 78; refine (S5.out _ (looked tab (enc key bs (r - 1))) _ Q1.out Ya.out).mono ?_; rintro e wb ⟨vb, rfl, yb, B_⟩; have Yb : Hid (Byt wb vb (shl16 (looked tab (enc key bs (r - 1))) 1)) := yb; have BB : Hid (Below w1.heap.size w1 wb) := BB.out.trans (B_.mono BB.out.size); clear yb B_)
          | (go_at_call 79; refine (S4.out _ _ (enc key bs (r - 1)) _ Q0.out Y0.out (T1.out.below BB.out)).mono ?_; rintro e wa ⟨va, rfl, ya, B_⟩; have Ya : Hid (Byt wa va (looked tab (enc key bs (r - 1)))) := ya; have BB : Hid (Below w1.heap.size w1 wa) := BB.out.trans (B_.mono BB.out.size); clear ya B_))
        go_roundw
        case rel => exact ⟨r + 1, by omega, by omega, by go_num, Yf.out, BB.out⟩
        case measure => simp [intOf]; omega
    · have hr15 : r = 15 := by omega
      have kn : ¬ (r : Int) ≤ 14 := by omega
      have YZ : Hid (Byt wr u8 zs) := by
        rw [HZ.out]
        have h := hY
        rw [hr15] at h
        exact h
      clear hY
      go_wp2
      go_ret
      exact ⟨_, rfl, YZ.out, B1.trans (hB.mono B1.size)⟩

set_option maxRecDepth 20000 in
set_option maxHeartbeats 8000000 in
theorem rdecrypt_any (kv bv tv : Value) (key bs : List Int) (w : World) (hk : Byt w kv key) (hkl : key.length = 32) (hb : Byt w bv bs) (hbl : bs.length = 16) (ht : Byt w tv ptab) :
    Calls Tryz.prog 52 #[kv, bv, tv] w fun e w' => ∃ v', e = .returned v' ∧ Byt w' v' (decr key bs) ∧ Below w.heap.size w w' := by
  have hka := hk.all
  have hbb : Blk bs := ⟨hbl, hb.all⟩
  have HK : Hid (Byt w kv key) := hk
  have HB : Hid (Byt w bv bs) := hb
  have HT : Hid (Byt w tv ptab) := ht
  have S1 : Hid (∀ v tv w0, Byt w0 v key → Byt w0 tv ptab → Calls Tryz.prog 76 #[v, tv] w0 fun e w' => ∃ v', e = .returned v' ∧ Wds w' v' key ∧ Below w0.heap.size w0 w') := fun v tv w0 h h' => rexpand_any v tv key w0 h hkl h'
  have S7 : Hid (∀ tv w0, Byt w0 tv ptab → Calls Tryz.prog 92 #[tv] w0 fun e w' => ∃ v', e = .returned v' ∧ Byt w' v' btab ∧ Below w0.heap.size w0 w') := fun tv w0 h => rturnedT_any tv w0 h
  have S2 : Hid (∀ v r w0, Wds w0 v key → r ≤ 14 → Calls Tryz.prog 77 #[v, .int .i64 (r : Nat)] w0 fun e w' => ∃ v', e = .returned v' ∧ Byt w' v' (rk key r) ∧ Below w0.heap.size w0 w') := fun v r w0 h hr => rround_any v key r w0 h hkl hka hr
  have S3 : Hid (∀ va vb xs ys w0, Blk xs → Blk ys → Byt w0 va xs → Byt w0 vb ys → Calls Tryz.prog 42 #[va, vb] w0 fun e w' => ∃ v, e = .returned v ∧ Byt w' v (xorl xs ys) ∧ Below w0.heap.size w0 w') := fun va vb xs ys w0 hx hy h h' => rxor_any va vb xs ys w0 h h' (by rw [hx.1, hy.1]) (by rw [hx.1]; omega)
  have S4 : Hid (∀ v tv xs w0, Blk xs → Byt w0 v xs → Byt w0 tv btab → Calls Tryz.prog 79 #[v, tv] w0 fun e w' => ∃ v', e = .returned v' ∧ Byt w' v' (looked btab xs) ∧ Below w0.heap.size w0 w') := fun v tv xs w0 hx h h' => rput_any v tv xs btab w0 h h' btab_len (by rw [hx.1]; omega)
  have S5 : Hid (∀ v xs w0, Blk xs → Byt w0 v xs → Calls Tryz.prog 78 #[v, .int .i64 3] w0 fun e w' => ∃ v', e = .returned v' ∧ Byt w' v' (shl16 xs 3) ∧ Below w0.heap.size w0 w') := fun v xs w0 hx h => (rshift_any v xs 3 w0 h hx.1 (by omega)).mono fun _ _ ⟨g, he, hA, _, hbl⟩ => ⟨_, he, hA.bytG (shl16_all _ _ hx.2) 16 16 (shl16_len _ _) (by omega) (by omega), hbl⟩
  have S6 : Hid (∀ v xs w0, Blk xs → Byt w0 v xs → Calls Tryz.prog 80 #[v, .agg (ints .u8 (cI unmW))] w0 fun e w' => ∃ v', e = .returned v' ∧ Byt w' v' (mixb xs unmW) ∧ Below w0.heap.size w0 w') := fun v xs w0 hx h => rmixed_any v xs unmW w0 h hx.1 unmW_col
  have HEB : Hid (∀ k, Blk (dec key bs k)) := fun k => dec_blk key bs hbb k
  have HKB : Hid (∀ r, Blk (rk key r)) := fun r => rk_blk key hkl hka r
  have HES : Hid (∀ r, 1 ≤ r → r < 14 → dec key bs (14 - (r - 1)) = looked btab (shl16 (mixb (xorl (dec key bs (14 - r)) (rk key r)) unmW) 3)) := fun r hr1 hr => by
    rw [show 14 - (r - 1) = (14 - r) + 1 by omega, dec, show 14 - (14 - r) = r by omega, bw, um, if_pos hr]
  have HEF : Hid (∀ r, r = 14 → dec key bs (14 - (r - 1)) = looked btab (shl16 (xorl (dec key bs (14 - r)) (rk key r)) 3)) := fun r hr => by
    subst hr
    show looked btab (shl16 (um 14 (xorl (dec key bs 0) (rk key 14))) 3) = looked btab (shl16 (xorl (dec key bs 0) (rk key 14)) 3)
    rw [um, if_neg (by omega)]
  have HEL : Hid (decr key bs = xorl (dec key bs 14) (rk key 0)) := rfl
  have HD0 : Hid (dec key bs 0 = bs) := rfl
  generalize decr key bs = zs at *
  generalize ptab = tab at *
  generalize btab = btb at *
  clear hk hb ht hka hbb hkl hbl
  go_enter Tryz.func52, Tryz.ntmps52
  go_wp2_with (first
    | (go_at_call 92; refine (S7.out _ _ T1.out).mono ?_; rintro e w2 ⟨tb2, rfl, y2, B2⟩; have TB : Hid (Byt w2 tb2 btb) := y2; have D2_ : Hid (Wds w2 wv key) := D1.out.below B2; have Y2 : Hid (Byt w2 bv (dec key bs 0)) := (by rw [HD0.out]; exact (HB.out.below B1).below B2); clear y2)
    | (go_at_call 76; refine (S1.out _ _ _ HK.out HT.out).mono ?_; rintro e w1 ⟨wv, rfl, d1, B1⟩; have D1 : Hid (Wds w1 wv key) := d1; have T1 : Hid (Byt w1 tv tab) := HT.out.below B1; clear d1))
  have B12 : Below w.heap.size w w2 := B1.trans (B2.mono B1.size)
  clear HK HB HT S1 S7 D1 T1
  go_loopw [9, 10] (fun v i wr => ∃ r : Nat, r ≤ 14 ∧ i = .int .i64 r ∧ Byt wr v (dec key bs (14 - r)) ∧ Below w2.heap.size w2 wr) (fun _ i _ => (intOf i).toNat)
  case atStart => exact ⟨14, Nat.le_refl _, rfl, Y2.out, Below.refl _ _⟩
  case round =>
    obtain ⟨r, hr, rfl, hY, hB⟩ := hrel
    clear Y2
    have q0 : (0 : Int) ≤ (r : Int) := by omega
    have q1 : IntKind.i64.wrap (r : Int) = r := by rw [IntKind.wrap_i64]; omega
    have Y0 : Hid (Byt wr u9 (dec key bs (14 - r))) := hY
    have BB : Hid (Below w2.heap.size w2 wr) := hB
    have Q0 : Hid (Blk (dec key bs (14 - r))) := HEB.out _
    have QK : Hid (Blk (rk key r)) := HKB.out r
    clear hY
    by_cases hlt : 1 ≤ r
    · have k1 : (1 : Int) ≤ (r : Int) := by omega
      have Q1 : Hid (Blk (xorl (dec key bs (14 - r)) (rk key r))) := xorl_blk _ _ Q0.out QK.out
      obtain ⟨r1, hr1⟩ : ∃ q, q = r - 1 := ⟨_, rfl⟩
      have t1 : (r : Int) - 1 = (r1 : Int) := by omega
      have t2 : IntKind.i64.wrap (r1 : Int) = r1 := by rw [IntKind.wrap_i64]; omega
      by_cases hlt2 : r < 14
      · have k2 : (r : Int) < 14 := by omega
        have Q2 : Hid (Blk (mixb (xorl (dec key bs (14 - r)) (rk key r)) unmW)) := mixb_blk _ _ unmW_col
        have Q3 : Hid (Blk (shl16 (mixb (xorl (dec key bs (14 - r)) (rk key r)) unmW) 3)) := shl16_blk _ 3 Q2.out
        have EN : Hid (dec key bs (14 - (r - 1)) = looked btb (shl16 (mixb (xorl (dec key bs (14 - r)) (rk key r)) unmW) 3)) := HES.out r hlt hlt2
        go_wp2_with (first
          | (go_at_call 79; refine (S4.out _ _ (shl16 (mixb (xorl (dec key bs (14 - r)) (rk key r)) unmW) 3) _ Q3.out Yd.out (TB.out.below BB.out)).mono ?_; rintro e we ⟨ve, rfl, ye, B_⟩; have Yf : Hid (Byt we ve (dec key bs (14 - (r - 1)))) := (by rw [EN.out]; exact ye); have BB : Hid (Below w2.heap.size w2 we) := BB.out.trans (B_.mono BB.out.size); clear ye B_)
          | (go_at_call 78; refine (S5.out _ (mixb (xorl (dec key bs (14 - r)) (rk key r)) unmW) _ Q2.out Yc.out).mono ?_; rintro e wd_ ⟨vd, rfl, yd, B_⟩; have Yd : Hid (Byt wd_ vd (shl16 (mixb (xorl (dec key bs (14 - r)) (rk key r)) unmW) 3)) := yd; have BB : Hid (Below w2.heap.size w2 wd_) := BB.out.trans (B_.mono BB.out.size); clear yd B_)
          | (go_at_call 80; refine (S6.out _ (xorl (dec key bs (14 - r)) (rk key r)) _ Q1.out Yb.out).mono ?_; rintro e wc ⟨vc, rfl, yc, B_⟩; have Yc : Hid (Byt wc vc (mixb (xorl (dec key bs (14 - r)) (rk key r)) unmW)) := yc; have BB : Hid (Below w2.heap.size w2 wc) := BB.out.trans (B_.mono BB.out.size); clear yc B_)
          | (refine build_law _ rfl 86 _ rfl (.agg (ints .u8 (cI unmW))) (by kernel_rfl) ?_)
          | (go_at_call 42; refine (S3.out _ _ (dec key bs (14 - r)) (rk key r) _ Q0.out QK.out Y0a.out Ya.out).mono ?_; rintro e wb ⟨vb, rfl, yb, B_⟩; have Yb : Hid (Byt wb vb (xorl (dec key bs (14 - r)) (rk key r))) := yb; have BB : Hid (Below w2.heap.size w2 wb) := BB.out.trans (B_.mono BB.out.size); clear yb B_)
          | (go_at_call 77; refine (S2.out _ r _ (D2_.out.below BB.out) hr).mono ?_; rintro e wa ⟨va, rfl, ya, B_⟩; have Ya : Hid (Byt wa va (rk key r)) := ya; have Y0a : Hid (Byt wa _ (dec key bs (14 - r))) := Y0.out.below B_; have BB : Hid (Below w2.heap.size w2 wa) := BB.out.trans (B_.mono BB.out.size); clear ya B_))
        go_roundw
        case rel => exact ⟨r1, by omega, by rw [hr1], by rw [hr1]; exact Yf.out, BB.out⟩
        case measure => simp [intOf]; omega
      · have k2 : ¬ (r : Int) < 14 := by omega
        have Q3 : Hid (Blk (shl16 (xorl (dec key bs (14 - r)) (rk key r)) 3)) := shl16_blk _ 3 Q1.out
        have EN : Hid (dec key bs (14 - (r - 1)) = looked btb (shl16 (xorl (dec key bs (14 - r)) (rk key r)) 3)) := HEF.out r (by omega)
        go_wp2_with (first
          | (go_at_call 79; refine (S4.out _ _ (shl16 (xorl (dec key bs (14 - r)) (rk key r)) 3) _ Q3.out Yd.out (TB.out.below BB.out)).mono ?_; rintro e we ⟨ve, rfl, ye, B_⟩; have Yf : Hid (Byt we ve (dec key bs (14 - (r - 1)))) := (by rw [EN.out]; exact ye); have BB : Hid (Below w2.heap.size w2 we) := BB.out.trans (B_.mono BB.out.size); clear ye B_)
          | (go_at_call 78; refine (S5.out _ (xorl (dec key bs (14 - r)) (rk key r)) _ Q1.out Yb.out).mono ?_; rintro e wd_ ⟨vd, rfl, yd, B_⟩; have Yd : Hid (Byt wd_ vd (shl16 (xorl (dec key bs (14 - r)) (rk key r)) 3)) := yd; have BB : Hid (Below w2.heap.size w2 wd_) := BB.out.trans (B_.mono BB.out.size); clear yd B_)
          | (go_at_call 42; refine (S3.out _ _ (dec key bs (14 - r)) (rk key r) _ Q0.out QK.out Y0a.out Ya.out).mono ?_; rintro e wb ⟨vb, rfl, yb, B_⟩; have Yb : Hid (Byt wb vb (xorl (dec key bs (14 - r)) (rk key r))) := yb; have BB : Hid (Below w2.heap.size w2 wb) := BB.out.trans (B_.mono BB.out.size); clear yb B_)
          | (go_at_call 77; refine (S2.out _ r _ (D2_.out.below BB.out) hr).mono ?_; rintro e wa ⟨va, rfl, ya, B_⟩; have Ya : Hid (Byt wa va (rk key r)) := ya; have Y0a : Hid (Byt wa _ (dec key bs (14 - r))) := Y0.out.below B_; have BB : Hid (Below w2.heap.size w2 wa) := BB.out.trans (B_.mono BB.out.size); clear ya B_))
        go_roundw
        case rel => exact ⟨r1, by omega, by rw [hr1], by rw [hr1]; exact Yf.out, BB.out⟩
        case measure => simp [intOf]; omega
    · have hr0 : r = 0 := by omega
      have kn : ¬ (1 : Int) ≤ (r : Int) := by omega
      have Y14 : Hid (Byt wr u9 (dec key bs 14)) := by
        have h := Y0.out
        rw [hr0] at h
        exact h
      clear Y0
      go_wp2_with (first
        | (go_at_call 42; refine (S3.out _ _ (dec key bs 14) (rk key 0) _ (HEB.out 14) (HKB.out 0) Y0a.out Ya.out).mono ?_; rintro e wb ⟨vb, rfl, yb, B_⟩; have Yb : Hid (Byt wb vb zs) := (by rw [HEL.out]; exact yb); have BB : Hid (Below w2.heap.size w2 wb) := BB.out.trans (B_.mono BB.out.size); clear yb B_)
        | (go_at_call 77; refine (S2.out _ 0 _ (D2_.out.below BB.out) (by omega)).mono ?_; rintro e wa ⟨va, rfl, ya, B_⟩; have Ya : Hid (Byt wa va (rk key 0)) := ya; have Y0a : Hid (Byt wa _ (dec key bs 14)) := Y14.out.below B_; have BB : Hid (Below w2.heap.size w2 wa) := BB.out.trans (B_.mono BB.out.size); clear ya B_))
      go_ret
      exact ⟨_, rfl, Yb.out, B12.trans (BB.out.mono B12.size)⟩
end Go.Proofs.YtbkaecjkgjkheaaGreatDoor

/- Rows of whole numbers ([]int): made, grown, read, written. No claim of its own. -/
namespace Go.Proofs.YtbkaecjkgjkheaaGreatDoor.tw
open Go.RowKit
set_option maxRecDepth 20000

theorem info_intT : (Tryz.prog.info? 3).map (fun i => (i.zero, i.size, i.bytes)) = some (some (.int .i64 0), 1, 8) := by kernel_rfl
theorem i_int : (Tryz.prog.info? 3).map (·.size) = some 1 := by kernel_rfl
theorem und_ints : Tryz.prog.underlying 115 = some (.slice (Tryz.prog.elem 115)) := by kernel_rfl
theorem elem_ints : Tryz.prog.elem 115 = 3 := by kernel_rfl

/-- v is a slice of the numbers cs, from the beginning of a block on -/
def Its (w : World) (v : Value) (cs : List Int) : Prop := ∃ g cap, v = .slice (some ⟨g, 0, none⟩) cs.length cap ∧ cs.length ≤ cap ∧ cap ≤ 9223372036854775807 ∧ Ar w g 0 .i64 cs ∧ g < w.heap.size
theorem Its.below {w w' : World} {v : Value} {cs : List Int} (h : Its w v cs) (hb : Below w.heap.size w w') : Its w' v cs := by
  obtain ⟨g, cap, rfl, h1, h2, h3, h4⟩ := h
  exact ⟨g, cap, rfl, h1, h2, h3.below hb h4, Nat.lt_of_lt_of_le h4 hb.size⟩
/-- v owns the numbers cs, in a block from B on -/
def OwnI (B : Nat) (w : World) (v : Value) (cs : List Int) : Prop := w.ownsRow B 3 1 v cs.length (cs.map (Value.int .i64))
theorem OwnI.empty (w : World) {B : Nat} (hB : B ≤ w.heap.size) : OwnI B (w.alloc (.cells #[] 3)) (.slice (some ⟨w.heap.size, 0, none⟩) 0 0) [] :=
  World.ownsRow_made w #[] 0 hB (by simp [maxLen]) (by simp)
theorem OwnI.one (w : World) {B : Nat} (hB : B ≤ w.heap.size) (x : Int) : OwnI B (w.alloc (.cells #[.int .i64 x] 3)) (.slice (some ⟨w.heap.size, 0, none⟩) 1 1) [x] :=
  World.ownsRow_lit w #[.int .i64 x] 1 hB (by simp [maxLen]) (by simp)
theorem OwnI.its {B : Nat} {w : World} {v : Value} {cs : List Int} (h : OwnI B w v cs) (hp : 0 < cs.length) : ∃ g cap, v = .slice (some ⟨g, 0, none⟩) cs.length cap ∧ cs.length ≤ cap ∧ cap ≤ 9223372036854775807 ∧ B ≤ g ∧ g < w.heap.size ∧ Ar w g 0 .i64 cs := by
  have hlt := World.ownsRow.lt h
  rcases h.2 with ⟨rfl, hn⟩ | ⟨g, cap, cur, rfl, hg, hb, hc, hm, hs, ht⟩
  · omega
  · refine ⟨g, cap, rfl, hc, by simpa [maxLen] using hm, hg, (hlt g rfl).2, Ar.mk fun i hi => ?_⟩
    rw [Nat.zero_add]
    refine ⟨?_, World.ownsRow.frozenAt h i⟩
    rw [World.ownsRow.cellAt h i (by omega)]
    simp [gb, List.getD, hi]

section
variable {ops : Array Oper} {rest : List Oper} {o : Oper} {a : Act} {Q : Exit → Act → World → Prop}
/-- 'append(out, c)' of a number, out of the call's own -/
theorem push_lawI (w0 : World) (hg : o.guard = none) (s x : Operand) (hop : o.op = .call { callee := .builtin .append, args := #[s, x], argTypes := #[115, 115] })
    (B : Nat) (hB : B ≤ w0.heap.size) (v : Value) (xs : List Int) (c : Int) (hs : a.eval s = v) (hx : a.eval x = .slice (some ⟨w0.heap.size, 0, none⟩) 1 1) (hown : OwnI B w0 v xs) (hn : xs.length ≤ 1000000)
    (hK : ∀ v' w', OwnI B w' v' (xs ++ [c]) → Below B w0 w' → wpList Tryz.prog ops Q rest (a.put o.dst v') w') :
    wpList Tryz.prog ops Q (o :: rest) a (w0.alloc (.cells #[.int .i64 c] 3)) := by
  obtain ⟨i0, hi, hz0, hz1, hz2⟩ := info_parts info_intT
  refine wpList_append_own _ hg s x 115 hop B 3 i0 (.int .i64 0) 1 8 Tryz.underlying115 hi hz0 hz1 hz2 rfl (by decide) v xs.length _ hs (World.ownsRow.alloc hown _) ⟨w0.heap.size, 0, none⟩ 1 1 [.int .i64 c] hx rfl ?_ ?_ (by simp only [maxLen]; omega) (by omega) (by simp; omega) fun v' w' h1 h2 _ => ?_
  · intro j u hj
    match j, hj with
    | 0, hj => simp at hj; subst hj; simp [Addr.add]
  · intro u hu; simp at hu; subst hu; rfl
  · refine hK v' w' ?_ ?_
    · show w'.ownsRow B 3 1 v' (xs ++ [c]).length ((xs ++ [c]).map (Value.int .i64))
      simpa using h1
    · refine ((Below.refl B w0).alloc hB _).grown h2 (by simp; omega) fun k hk => ?_
      exact (World.ownsRow.lt hown k hk).1
/-- 'append(out, s...)' of numbers, out of the call's own -/
theorem pushs_lawI (w : World) (hg : o.guard = none) (s x : Operand) (hop : o.op = .call { callee := .builtin .append, args := #[s, x], argTypes := #[115, 115] })
    (B : Nat) (hB : B ≤ w.heap.size) (v vy : Value) (xs ys : List Int) (hs : a.eval s = v) (hx : a.eval x = vy) (hown : OwnI B w v xs) (hy : Its w vy ys) (hn : xs.length ≤ 1000000) (hm : ys.length ≤ 1000000)
    (hK : ∀ v' w', OwnI B w' v' (xs ++ ys) → Below B w w' → wpList Tryz.prog ops Q rest (a.put o.dst v') w') :
    wpList Tryz.prog ops Q (o :: rest) a w := by
  obtain ⟨i0, hi, hz0, hz1, hz2⟩ := info_parts info_intT
  obtain ⟨g, cap, rfl, h1, h2, h3, h4⟩ := hy
  refine wpList_append_own _ hg s x 115 hop B 3 i0 (.int .i64 0) 1 8 Tryz.underlying115 hi hz0 hz1 hz2 rfl (by decide) v xs.length _ hs hown ⟨g, 0, none⟩ ys.length cap (ys.map (Value.int .i64)) hx (by simp) ?_ ?_ (by simp only [maxLen]; omega) (by omega) hB fun v' w' h1 h2 _ => ?_
  · intro j u hj
    have hjl : j < ys.length := by have := (List.getElem?_eq_some_iff.1 hj).1; simpa using this
    rw [Addr.add_mid, h3.cell j hjl, ← hj]
    simp [gb, List.getD, hjl]
  · intro u hu
    simp only [List.mem_map] at hu
    obtain ⟨y, _, rfl⟩ := hu
    rfl
  · refine hK v' w' ?_ ?_
    · show w'.ownsRow B 3 1 v' (xs ++ ys).length ((xs ++ ys).map (Value.int .i64))
      simpa using h1
    · exact (Below.refl B w).grown h2 hB fun k hk => (World.ownsRow.lt hown k hk).1
/-- 'make([]int, n)' -/
theorem make_lawI (w : World) (hg : o.guard = none) (l c : Operand) (hop : o.op = Op.makeSlice 115 l c)
    (L : Int) (n : Nat) (hl : a.eval l = .int .i64 L) (hc : a.eval c = .int .i64 L) (hL : L = (n : Int)) (hn : n ≤ 1000000)
    (hK : ∀ w', Ar w' w.heap.size 0 .i64 (List.replicate n 0) → Below w.heap.size w w' → w.heap.size < w'.heap.size → wpList Tryz.prog ops Q rest (a.put o.dst (.slice (some ⟨w.heap.size, 0, none⟩) n n)) w') :
    wpList Tryz.prog ops Q (o :: rest) a w := by
  obtain ⟨i0, hi, hz0, hz1, hz2⟩ := info_parts info_intT
  refine wpList_make_full w hg l c 115 hop w.heap.size 3 i0 (.int .i64 0) 1 Tryz.underlying115 hi hz0 hz1 .i64 .i64 L L n hl hc hL hL (by rw [hz2]; omega) (by simp only [maxLen]; omega) (Nat.le_refl _) fun w' h1 h2 => ?_
  have hlt : w.heap.size < w'.heap.size := (h1.lt w.heap.size rfl).2
  refine hK w' ?_ ((Below.refl _ w).grown h2 (Nat.le_refl _) (fun k hk => by cases hk)) hlt
  have e : (madeCells (Value.int .i64 0).cells (n * 1)).toList = (List.replicate n (0 : Int)).map (Value.int .i64) := by
    rw [Nat.mul_one]
    show (madeCells #[Value.int .i64 0] n).toList = _
    rw [toList_madeCells_one]; simp
  rw [e] at h1
  refine Ar.mk fun i hi => ?_
  rw [Nat.zero_add]
  have hi' : i < n := by simpa using hi
  refine ⟨?_, h1.frozenAt i⟩
  rw [h1.cellAt i (by omega)]
  simp [gb, List.getD, hi']
/-- one number of a row is written; the world gets a name -/
theorem set_lawF (w : World) (hg : o.guard = none) (x y : Operand) (t : TypeId) (hop : o.op = Op.store t x y) (k : IntKind) (n : Int) (b p : Nat) (xs : List Int) (hx : a.eval x = .pointer (some ⟨b, p, none⟩)) (hy : a.eval y = .int k n)
    (hA : Ar w b 0 k xs) (hp : p < xs.length) (hi : (Tryz.prog.info? t).map (·.size) = some 1)
    (hK : ∀ w', Ar w' b 0 k (xs.set p n) → Below b w w' → wpList Tryz.prog ops Q rest (a.put o.dst undef) w') :
    wpList Tryz.prog ops Q (o :: rest) a w := by
  refine wpList_plain hg fun K hK' => ?_
  have hc : (w.cell? ⟨b, p, none⟩).isSome = true := by rw [hA.cell0 p hp]; rfl
  have hf := hA.free0 p hp
  have hr : (storeVar t ⟨b, p, none⟩ (.int k n)).run Tryz.prog w = .ok () (w.setCell ⟨b, p, none⟩ (.int k n)) := by
    have e0 : ∀ j, j < [Value.int k n].length → j = 0 := fun j hj => by simpa using hj
    have := run_storeCells_cells (P := Tryz.prog) b p [.int k n] 0 w (fun j hj => by rw [e0 j hj]; simpa using hc) (fun j hj => by rw [e0 j hj]; simpa using hf) (fun v hv => by simp at hv; subst hv; rfl)
    cases hq : Tryz.prog.info? t with
    | none => simp [hq] at hi
    | some i =>
      have hs : i.size = 1 := by simpa [hq] using hi
      simp only [Nat.add_zero] at this
      simp [storeVar, sizeOf, typeInfo, hq, Value.cells, hs]
      simpa [World.setCells] using this
  unfold Oper.wp execOp
  simp only [hop, hx, hy, Instr.storeAt, Instr.sureAddr, Sem.run_bind, Sem.run_pure, Result.andThen_ok, hr]
  exact hK' _ _ (hK _ (hA.set0 p hp n) ((Below.refl b w).setCell (p := ⟨b, p, none⟩) (Nat.le_refl _) _))
end

/-! ### bits -/
theorem b01_mod (b j : Nat) : ((b / 2 ^ j : Nat) : Int) % 2 = b01 (b.testBit j) := by
  rw [Nat.testBit_eq_decide_div_mod_eq]
  unfold b01
  by_cases h : b / 2 ^ j % 2 = 1
  · rw [decide_eq_true h, if_pos rfl]; omega
  · rw [decide_eq_false h, if_neg (by decide)]; omega
theorem b01_bd (c : Bool) : 0 ≤ b01 c ∧ b01 c ≤ 1 := by cases c <;> simp [b01]
theorem cf_take (L n t : Nat) (h : t < L) : (cf L n).take (t + 1) = (cf L n).take t ++ [b01 (n.testBit t)] := by
  rw [List.take_succ_eq_append_getElem (by rw [cf_len]; exact h)]
  simp [cf]
theorem half_pow (b j : Nat) : b / 2 ^ j / 2 = b / 2 ^ (j + 1) := by rw [Nat.div_div_eq_div_mul, Nat.pow_succ]

set_option linter.unusedSimpArgs false in
set_option maxRecDepth 20000 in
set_option maxHeartbeats 4000000 in
theorem rbits_any (v : Value) (xs : List Int) (w : World) (hv : Byt w v xs) (hl : xs.length = 16) :
    Calls Tryz.prog 83 #[v] w fun e w' => ∃ v', e = .returned v' ∧ Its w' v' (cf 128 (nm16 xs)) ∧ Below w.heap.size w w' := by
  have HX : Hid (AllB xs) := hv.all
  obtain ⟨ao, ca, rfl, ha1, ha2, ha3, ha4, ha5⟩ := hv
  obtain ⟨bb, bo, rfl, hcell⟩ := ha5 (by omega)
  have HC : Hid (∀ t, t < 16 → w.cell? ⟨bb, bo + t, none⟩ = some (.int .u8 (gb xs t))) := by
    show ∀ t, _
    rw [← hl]; exact hcell
  have hbw : bb < w.heap.size := World.block_lt_of_cell? w _ (hcell 0 (by omega))
  have HT : Hid (∀ i j, i < 16 → j < 8 → (cf 128 (nm16 xs)).take (8 * i + j + 1) = (cf 128 (nm16 xs)).take (8 * i + j) ++ [(((gb xs i).toNat / 2 ^ j : Nat) : Int) % 2]) := fun i j hi hj => by
    rw [cf_take _ _ _ (by omega), nm_bit xs ha3 i j hi hj, b01_mod]
  have HL : Hid ((cf 128 (nm16 xs)).length = 128 ∧ (cf 128 (nm16 xs)).take 128 = cf 128 (nm16 xs)) := ⟨cf_len _ _, by rw [List.take_of_length_le (by rw [cf_len]; omega)]⟩
  rw [hl] at ha1 ⊢
  clear hcell ha3 ha4 ha5 hl
  generalize cf 128 (nm16 xs) = zs at *
  go_enter Tryz.func83, Tryz.ntmps83
  go_wp2
  go_loopw [3, 4] (fun u i wr => ∃ k : Nat, k ≤ 16 ∧ i = .int .i64 k ∧ OwnI w.heap.size wr u (zs.take (8 * k)) ∧ Below w.heap.size w wr) (fun _ i _ => 16 - (intOf i).toNat)
  case atStart => exact ⟨0, Nat.zero_le _, rfl, OwnI.empty w (Nat.le_refl _), (Below.refl _ _).alloc (Nat.le_refl _) _⟩
  case round =>
    obtain ⟨k, hk, rfl, hO, hB⟩ := hrel
    obtain ⟨wa, rfl⟩ : ∃ wx, wx = wr := ⟨_, rfl⟩
    have k0 : (0 : Int) ≤ (k : Int) := by omega
    have q1 : IntKind.i64.wrap (k : Int) = k := by rw [IntKind.wrap_i64]; omega
    have HO : Hid (OwnI w.heap.size wa u3 (zs.take (8 * k + 0))) := hO
    have HB : Hid (Below w.heap.size w wa) := hB
    have hsz := hB.size
    clear hO hB
    by_cases hlt : k < 16
    · have k1 : (k : Int) < 16 := by omega
      have c1 : wa.cell? ⟨bb, bo + k, none⟩ = some (.int .u8 (gb xs k)) := (HB.out.cell hbw).trans (HC.out k hlt)
      have bx := HX.out k
      obtain ⟨b, hb⟩ : ∃ b : Nat, b = (gb xs k).toNat := ⟨_, rfl⟩
      have hbx : gb xs k = (b : Int) := by omega
      have hb8 : b < 256 := by omega
      have HTk : Hid (∀ j, j < 8 → zs.take (8 * k + j + 1) = zs.take (8 * k + j) ++ [((b / 2 ^ j : Nat) : Int) % 2]) := fun j hj => by
        have := HT.out k j hlt hj
        rwa [← hb] at this
      rw [hbx] at c1
      clear hb bx hbx
      go_wp2
      go_loopw [3, 5, 6] (fun u n j wr => ∃ m : Nat, m ≤ 8 ∧ j = .int .i64 m ∧ n = .int .i64 ((b / 2 ^ m : Nat) : Int) ∧ OwnI w.heap.size wr u (zs.take (8 * k + m)) ∧ Below w.heap.size w wr) (fun _ _ j _ => 8 - (intOf j).toNat)
      case atStart => exact ⟨0, Nat.zero_le _, rfl, by simp, HO.out, HB.out⟩
      case round =>
        obtain ⟨m, hm, rfl, rfl, hO', hB'⟩ := hrel
        obtain ⟨wb, rfl⟩ : ∃ wx, wx = wr := ⟨_, rfl⟩
        have m0 : (0 : Int) ≤ (m : Int) := by omega
        have q2 : IntKind.i64.wrap (m : Int) = m := by rw [IntKind.wrap_i64]; omega
        have HO' : Hid (OwnI w.heap.size wb u3 (zs.take (8 * k + m))) := hO'
        have HB' : Hid (Below w.heap.size w wb) := hB'
        have hsz' := hB'.size
        clear hO' hB'
        by_cases hmt : m < 8
        · have m1 : (m : Int) < 8 := by omega
          have HN : Hid (b / 2 ^ m / 2 = b / 2 ^ (m + 1)) := half_pow b m
          have HTm : Hid (zs.take (8 * k + (m + 1)) = zs.take (8 * k + m) ++ [((b / 2 ^ m : Nat) : Int) % 2]) := HTk.out m hmt
          have hx8 : b / 2 ^ m < 256 := Nat.lt_of_le_of_lt (Nat.div_le_self _ _) hb8
          have HTL : Hid ((zs.take (8 * k + m)).length ≤ 128) := by show _ ≤ _; rw [List.length_take, HL.out.1]; omega
          generalize b / 2 ^ m = x at *
          go_wp2_with (at_builtin; refine push_lawI wb rfl (.tmp 21) (.tmp 24) rfl w.heap.size hsz' _ (zs.take (8 * k + m)) _ rfl rfl HO'.out (by have := HTL.out; omega) ?_; intro v' w1 O1 B1; have HO1 : Hid (OwnI w.heap.size w1 v' (zs.take (8 * k + (m + 1)))) := (by show OwnI _ _ _ _; rw [HTm.out]; exact O1); have HB1 : Hid (Below w.heap.size w w1) := HB'.out.trans B1; clear O1 B1)
          go_roundw
          case rel => exact ⟨m + 1, by omega, by go_num, by rw [← HN.out]; go_num, HO1.out, HB1.out⟩
          case measure => simp [intOf]; omega
        · have hm8 : m = 8 := by omega
          subst hm8
          have HO2 : Hid (OwnI w.heap.size wb u3 (zs.take (8 * (k + 1)))) := HO'.out
          go_wp2
          go_roundw
          case rel => exact ⟨k + 1, by omega, by go_num, HO2.out, HB'.out⟩
          case measure => simp [intOf]; omega
    · have hk16 : k = 16 := by omega
      subst hk16
      have HO2 : Hid (OwnI w.heap.size wa u3 zs) := by have := HO.out; rw [show 8 * 16 + 0 = 128 from rfl, HL.out.2] at this; exact this
      clear HO
      go_wp2
      go_ret
      obtain ⟨g, cap, e, h1, h2, h3, h4, h5⟩ := HO2.out.its (by rw [HL.out.1]; omega)
      exact ⟨_, rfl, ⟨g, cap, e, h1, h2, h5, h4⟩, HB.out⟩
end Go.Proofs.YtbkaecjkgjkheaaGreatDoor.tw

/- What the reference's told and left answer. No claim of its own. -/
namespace Go.Proofs.YtbkaecjkgjkheaaGreatDoor.tw
open Go.RowKit
set_option maxRecDepth 20000

theorem up_pow (b j : Nat) : 2 * ((b / 2 ^ (j + 1) : Nat) : Int) + b01 (b.testBit j) = ((b / 2 ^ j : Nat) : Int) := by
  rw [← b01_mod, ← half_pow]
  omega
theorem bt16_take (n k : Nat) (h : k < 16) : (bt16 n).take (k + 1) = (bt16 n).take k ++ [((n / 2 ^ (8 * k) % 2 ^ 8 : Nat) : Int)] := by
  rw [List.take_succ_eq_append_getElem (by rw [bt16_len]; exact h)]
  simp [bt16]

set_option linter.unusedSimpArgs false in
set_option maxRecDepth 20000 in
set_option maxHeartbeats 4000000 in
theorem rtold_own (v : Value) (N : Nat) (w : World) (hv : Its w v (cf 128 N)) :
    Calls Tryz.prog 81 #[v] w fun e w' => ∃ v', e = .returned v' ∧ Own w.heap.size w' v' (bt16 N) ∧ Below w.heap.size w w' := by
  obtain ⟨gc, ca, rfl, ha1, ha2, hA, hgw⟩ := hv
  rw [cf_len] at ha1 ⊢
  have HC : Hid (∀ i j, i < 16 → j < 8 → w.cell? ⟨gc, 8 * i + j, none⟩ = some (.int .i64 (b01 ((N / 2 ^ (8 * i) % 2 ^ 8).testBit j)))) := fun i j hi hj => by
    have := hA.cell0 (8 * i + j) (by rw [cf_len]; omega)
    rwa [cf_gb _ _ _ (by omega), ← part_bit N i j hj] at this
  have HT : Hid (∀ k, k < 16 → (bt16 N).take (k + 1) = (bt16 N).take k ++ [((N / 2 ^ (8 * k) % 2 ^ 8 : Nat) : Int)]) := fun k hk => bt16_take N k hk
  have HL : Hid ((bt16 N).length = 16 ∧ (bt16 N).take 16 = bt16 N ∧ AllB (bt16 N)) := ⟨bt16_len _, by rw [List.take_of_length_le (by rw [bt16_len]; omega)], bt16_all _⟩
  have HBY : Hid (∀ k, N / 2 ^ (8 * k) % 2 ^ 8 < 256) := fun k => Nat.mod_lt _ (by decide)
  clear hA
  generalize bt16 N = zs at *
  obtain ⟨f, hf⟩ : ∃ f : Nat → Nat, f = fun k => N / 2 ^ (8 * k) % 2 ^ 8 := ⟨_, rfl⟩
  have ef : ∀ k, N / 2 ^ (8 * k) % 2 ^ 8 = f k := fun k => by rw [hf]
  simp only [ef] at HC HT HBY
  clear ef hf
  go_enter Tryz.func81, Tryz.ntmps81
  go_wp2
  go_loopw [3, 4] (fun u i wr => ∃ k : Nat, k ≤ 16 ∧ i = .int .i64 k ∧ Own w.heap.size wr u (zs.take k) ∧ Below w.heap.size w wr) (fun _ i _ => 16 - (intOf i).toNat)
  case atStart => exact ⟨0, Nat.zero_le _, rfl, Own.empty w (Nat.le_refl _), (Below.refl _ _).alloc (Nat.le_refl _) _⟩
  case round =>
    obtain ⟨k, hk, rfl, hO, hB⟩ := hrel
    obtain ⟨wa, rfl⟩ : ∃ wx, wx = wr := ⟨_, rfl⟩
    have k0 : (0 : Int) ≤ (k : Int) := by omega
    have q1 : IntKind.i64.wrap (k : Int) = k := by rw [IntKind.wrap_i64]; omega
    have HO : Hid (Own w.heap.size wa u3 (zs.take k)) := hO
    have HB : Hid (Below w.heap.size w wa) := hB
    have hsz := hB.size
    clear hO hB
    by_cases hlt : k < 16
    · have k1 : (k : Int) < 16 := by omega
      obtain ⟨b, hb⟩ : ∃ b : Nat, b = f k := ⟨_, rfl⟩
      have hb8 : b < 256 := by rw [hb]; exact HBY.out k
      have HCk : Hid (∀ j, j < 8 → wa.cell? ⟨gc, 8 * k + j, none⟩ = some (.int .i64 (b01 (b.testBit j)))) := fun j hj => by
        rw [HB.out.cell hgw, hb]; exact HC.out k j hlt hj
      have HTk : Hid (zs.take (k + 1) = zs.take k ++ [(b : Int)]) := by show _ = _; rw [hb]; exact HT.out k hlt
      have HTL : Hid ((zs.take k).length ≤ 16) := by show _ ≤ _; rw [List.length_take, HL.out.1]; omega
      clear hb
      go_wp2
      go_loopw [5, 6] (fun n j wr => ∃ m : Nat, m ≤ 8 ∧ j = .int .i64 ((m : Int) - 1) ∧ n = .int .i64 ((b / 2 ^ m : Nat) : Int) ∧ wr = wa) (fun _ j _ => (intOf j + 1).toNat)
      case atStart => exact ⟨8, Nat.le_refl _, rfl, by rw [show b / 2 ^ 8 = 0 by omega]; rfl, rfl⟩
      case round =>
        obtain ⟨m, hm, rfl, rfl, hw⟩ := hrel
        obtain rfl := hw.symm
        by_cases hmt : 0 < m
        · obtain ⟨j, rfl⟩ : ∃ j, m = j + 1 := ⟨m - 1, by omega⟩
          have hj : j < 8 := by omega
          have j0 : (0 : Int) ≤ (j : Int) := by omega
          have e1 : (((j + 1 : Nat) : Int) - 1) = (j : Int) := by omega
          rw [e1]
          have c1 := HCk.out j hj
          have HU : Hid (2 * ((b / 2 ^ (j + 1) : Nat) : Int) + b01 (b.testBit j) = ((b / 2 ^ j : Nat) : Int)) := up_pow b j
          have b1 := b01_bd (b.testBit j)
          have hx8 : b / 2 ^ (j + 1) < 256 := Nat.lt_of_le_of_lt (Nat.div_le_self _ _) hb8
          have q8 : IntKind.i64.wrap (8 * (k : Int)) = 8 * (k : Int) := by rw [IntKind.wrap_i64]; omega
          have q9 : IntKind.i64.wrap (8 * (k : Int) + (j : Int)) = ((8 * k + j : Nat) : Int) := by rw [IntKind.wrap_i64]; omega
          have q10 : 8 * (k : Int) + (j : Int) = ((8 * k + j : Nat) : Int) := by omega
          have l1 : ((8 * k + j : Nat) : Int) < 128 := by omega
          have l0 : (0 : Int) ≤ ((8 * k + j : Nat) : Int) := by omega
          have q11 : IntKind.i64.wrap ((j : Int) - 1) = (j : Int) - 1 := by rw [IntKind.wrap_i64]; omega
          generalize 8 * k + j = t at *
          generalize b01 (b.testBit j) = y at *
          generalize b / 2 ^ (j + 1) = x at *
          go_wp2
          go_roundw
          case rel => exact ⟨j, by omega, by go_num, by rw [HU.out], trivial⟩
          case measure => simp [intOf]
        · have hm0 : m = 0 := by omega
          subst hm0
          have e0 : (((0 : Nat) : Int) - 1) = -1 := rfl
          have e2 : b / 2 ^ 0 = b := by simp
          rw [e0, e2]
          have q12 : IntKind.u8.wrap (b : Int) = (b : Int) := by rw [IntKind.wrap_u8']; omega
          go_wp2_with (at_builtin; refine push_law wa rfl (.tmp 26) (.tmp 29) rfl w.heap.size hsz _ (zs.take k) _ rfl rfl HO.out (by have := HTL.out; omega) ?_; intro v' w1 O1 B1; have HO1 : Hid (Own w.heap.size w1 v' (zs.take (k + 1))) := (by show Own _ _ _ _; rw [HTk.out]; exact O1); have HB1 : Hid (Below w.heap.size w w1) := HB.out.trans B1; clear O1 B1)
          go_roundw
          case rel => exact ⟨k + 1, by omega, by go_num, HO1.out, HB1.out⟩
          case measure => simp [intOf]; omega
    · have hk16 : k = 16 := by omega
      subst hk16
      have HO2 : Hid (Own w.heap.size wa u3 zs) := by have := HO.out; rw [HL.out.2.1] at this; exact this
      clear HO
      go_wp2
      go_ret
      exact ⟨_, rfl, HO2.out, HB.out⟩
theorem rtold_any (v : Value) (N : Nat) (w : World) (hv : Its w v (cf 128 N)) :
    Calls Tryz.prog 81 #[v] w fun e w' => ∃ v', e = .returned v' ∧ Byt w' v' (bt16 N) ∧ Below w.heap.size w w' :=
  (rtold_own v N w hv).mono fun _ _ ⟨v', h1, h2, h3⟩ => ⟨v', h1, h2.byt (bt16_all _), h3⟩

/-! ### what is left -/
theorem cf_cut (L n : Nat) (h : 128 ≤ L) : (cf L n).take 128 = cf 128 n := ext_gb (by rw [List.length_take, cf_len, cf_len]; omega) fun t ht => by
  rw [List.length_take, cf_len] at ht
  have e : gb ((cf L n).take 128) t = gb (cf L n) t := by simp [gb, List.getD, show t < 128 by omega]
  rw [e, cf_gb _ _ _ (by omega), cf_gb _ _ _ (by omega)]
theorem rs_yes (N k : Nat) (h : N.testBit (128 + k) = true) : rs N (128 + k) = ((N ^^^ 2 ^ k) ^^^ 2 ^ (k + 1)) ^^^ 2 ^ (k + 2) ^^^ 2 ^ (k + 7) := by
  rw [four_bits]
  unfold rs
  rw [h, show 128 + k - 128 = k by omega]
  rfl
theorem rs_not (N k : Nat) (h : N.testBit (128 + k) = false) : rs N (128 + k) = N := by
  unfold rs
  rw [h]
  simp [sel]

set_option linter.unusedSimpArgs false in
set_option maxRecDepth 20000 in
set_option maxHeartbeats 4000000 in
theorem rleft_any (v : Value) (N m : Nat) (w : World) (hm : m ≤ 128) (hv : Its w v (cf (128 + m) N)) :
    Calls Tryz.prog 82 #[v] w fun e w' => ∃ v', e = .returned v' ∧ Its w' v' (cf 128 (lf N m)) ∧ Below w.heap.size w w' := by
  have HV : Hid (Its w v (cf (128 + m) N)) := hv
  have HL : Hid (∀ X, (cf (128 + m) X).length = 128 + m) := fun X => cf_len _ X
  clear hv
  go_enter Tryz.func82, Tryz.ntmps82
  go_wp2_with (at_builtin; refine pushs_lawI _ rfl (.tmp 5) (.tmp 6) rfl w.heap.size (by simp) _ v [] (cf (128 + m) N) rfl rfl (OwnI.empty w (Nat.le_refl _)) (HV.out.below ((Below.refl _ _).alloc (Nat.le_refl _) _)) (by simp) (by rw [HL.out]; omega) ?_; intro v1 w1 O1 B1; rw [List.nil_append] at O1; obtain ⟨g, cap, rfl, c1, c2, c3, c4, c5⟩ := O1.its (by rw [HL.out]; omega); have HA1 : Hid (Ar w1 g 0 .i64 (cf (128 + m) N)) := c5; rw [HL.out] at c1 ⊢; clear O1 c5)
  have BW : Below w.heap.size w w1 := ((Below.refl _ _).alloc (Nat.le_refl _) _).trans B1
  have hgB : w.heap.size ≤ g := c3
  obtain ⟨M, hM⟩ : ∃ M, M = 128 + m := ⟨_, rfl⟩
  have m8 : (128 : Int) ≤ (M : Int) ∧ (M : Int) ≤ 256 := by omega
  have eM : (128 : Int) + (m : Int) = (M : Int) := by omega
  rw [← hM] at c1 HA1 HL ⊢
  have HM : Hid (M = 128 + m) := hM
  clear HV B1 c3 c4 hM eM
  go_loopw [4] (fun i wr => ∃ j X : Nat, j ≤ m ∧ i = .int .i64 (127 + (j : Int)) ∧ lf X j = lf N m ∧ Ar wr g 0 .i64 (cf M X) ∧ Below w.heap.size w wr) (fun i _ => (intOf i - 127).toNat)
  case atStart => exact ⟨m, N, Nat.le_refl _, by have := HM.out; go_num, rfl, HA1.out, BW⟩
  case round =>
    obtain ⟨j, X, hj, rfl, hX, hA, hB⟩ := hrel
    obtain ⟨wa, rfl⟩ : ∃ wx, wx = wr := ⟨_, rfl⟩
    have HX : Hid (lf X j = lf N m) := hX
    have HA : Hid (Ar wa g 0 .i64 (cf M X)) := hA
    have HB : Hid (Below w.heap.size w wa) := hB
    clear hX hA hB
    by_cases hlt : 0 < j
    · obtain ⟨k, rfl⟩ : ∃ k, j = k + 1 := ⟨j - 1, by omega⟩
      obtain ⟨I, hI⟩ : ∃ I, I = 128 + k := ⟨_, rfl⟩
      have e0 : (127 : Int) + ((k + 1 : Nat) : Int) = (I : Int) := by omega
      rw [e0]
      have HXs : Hid (lf (rs X I) k = lf N m) := by show _ = _; rw [hI]; exact HX.out
      have iM : I < M := by have := HM.out; omega
      have i0 : (128 : Int) ≤ (I : Int) := by omega
      have i1 : (I : Int) < (M : Int) := by omega
      have qI : IntKind.i64.wrap ((I : Int) - 1) = (I : Int) - 1 := by rw [IntKind.wrap_i64]; omega
      have cI : wa.cell? ⟨g, I, none⟩ = some (.int .i64 (b01 (X.testBit I))) := by
        have := HA.out.cell0 I (by rw [HL.out]; exact iM)
        rwa [cf_gb _ _ _ iM] at this
      cases hbit : X.testBit I with
      | true =>
        rw [hbit] at cI
        have cI' : wa.cell? ⟨g, I, none⟩ = some (.int .i64 1) := cI
        clear cI
        have hrs : rs X I = ((X ^^^ 2 ^ k) ^^^ 2 ^ (k + 1)) ^^^ 2 ^ (k + 2) ^^^ 2 ^ (k + 7) := by rw [hI] at hbit ⊢; exact rs_yes X k hbit
        rw [hrs] at HXs
        obtain ⟨k1, hk1⟩ : ∃ x, x = k + 1 := ⟨_, rfl⟩
        obtain ⟨k2, hk2⟩ : ∃ x, x = k + 2 := ⟨_, rfl⟩
        obtain ⟨k7, hk7⟩ : ∃ x, x = k + 7 := ⟨_, rfl⟩
        rw [← hk1, ← hk2, ← hk7] at HXs
        have HF : Hid ((cf M X).set k (1 - b01 (X.testBit k)) = cf M (X ^^^ 2 ^ k) ∧ (cf M (X ^^^ 2 ^ k)).set k1 (1 - b01 ((X ^^^ 2 ^ k).testBit k1)) = cf M ((X ^^^ 2 ^ k) ^^^ 2 ^ k1) ∧ (cf M ((X ^^^ 2 ^ k) ^^^ 2 ^ k1)).set k2 (1 - b01 (((X ^^^ 2 ^ k) ^^^ 2 ^ k1).testBit k2)) = cf M (((X ^^^ 2 ^ k) ^^^ 2 ^ k1) ^^^ 2 ^ k2) ∧ (cf M (((X ^^^ 2 ^ k) ^^^ 2 ^ k1) ^^^ 2 ^ k2)).set k7 (1 - b01 ((((X ^^^ 2 ^ k) ^^^ 2 ^ k1) ^^^ 2 ^ k2).testBit k7)) = cf M ((((X ^^^ 2 ^ k) ^^^ 2 ^ k1) ^^^ 2 ^ k2) ^^^ 2 ^ k7)) := ⟨cf_flip _ _ _, cf_flip _ _ _, cf_flip _ _ _, cf_flip _ _ _⟩
        have HLN : Hid ((cf M X).length = M ∧ (cf M (X ^^^ 2 ^ k)).length = M ∧ (cf M ((X ^^^ 2 ^ k) ^^^ 2 ^ k1)).length = M ∧ (cf M (((X ^^^ 2 ^ k) ^^^ 2 ^ k1) ^^^ 2 ^ k2)).length = M) := ⟨HL.out _, HL.out _, HL.out _, HL.out _⟩
        have HY : Hid (gb (cf M (X ^^^ 2 ^ k)) k1 = b01 ((X ^^^ 2 ^ k).testBit k1) ∧ gb (cf M ((X ^^^ 2 ^ k) ^^^ 2 ^ k1)) k2 = b01 (((X ^^^ 2 ^ k) ^^^ 2 ^ k1).testBit k2) ∧ gb (cf M (((X ^^^ 2 ^ k) ^^^ 2 ^ k1) ^^^ 2 ^ k2)) k7 = b01 ((((X ^^^ 2 ^ k) ^^^ 2 ^ k1) ^^^ 2 ^ k2).testBit k7)) := ⟨cf_gb _ _ _ (by omega), cf_gb _ _ _ (by omega), cf_gb _ _ _ (by omega)⟩
        have d1 : wa.cell? ⟨g, k, none⟩ = some (.int .i64 (b01 (X.testBit k))) := by
          have := HA.out.cell0 k (by rw [HL.out]; omega)
          rwa [cf_gb _ _ _ (by omega)] at this
        have y0b := b01_bd (X.testBit k)
        have y1b := b01_bd ((X ^^^ 2 ^ k).testBit k1)
        have y2b := b01_bd (((X ^^^ 2 ^ k) ^^^ 2 ^ k1).testBit k2)
        have y7b := b01_bd ((((X ^^^ 2 ^ k) ^^^ 2 ^ k1) ^^^ 2 ^ k2).testBit k7)
        have u1 : (I : Int) - 128 = (k : Int) := by omega
        have u2 : (I : Int) - 127 = (k1 : Int) := by omega
        have u3' : (I : Int) - 126 = (k2 : Int) := by omega
        have u4' : (I : Int) - 121 = (k7 : Int) := by omega
        have v1 : IntKind.i64.wrap (k : Int) = (k : Int) := by rw [IntKind.wrap_i64]; omega
        have v2 : IntKind.i64.wrap (k1 : Int) = (k1 : Int) := by rw [IntKind.wrap_i64]; omega
        have v3 : IntKind.i64.wrap (k2 : Int) = (k2 : Int) := by rw [IntKind.wrap_i64]; omega
        have v4 : IntKind.i64.wrap (k7 : Int) = (k7 : Int) := by rw [IntKind.wrap_i64]; omega
        have x1 : (k : Int) < (M : Int) := by omega
        have x2 : (k1 : Int) < (M : Int) := by omega
        have x3 : (k2 : Int) < (M : Int) := by omega
        have x4 : (k7 : Int) < (M : Int) := by omega
        have HKB : Hid (k < M ∧ k1 < M ∧ k2 < M ∧ k7 < M) := ⟨by omega, by omega, by omega, by omega⟩
        have HI : Hid (I = 128 + k) := hI
        clear hrs hbit hk1 hk2 hk7 hI e0
        obtain ⟨X4, hX4⟩ : ∃ Y, Y = (((X ^^^ 2 ^ k) ^^^ 2 ^ k1) ^^^ 2 ^ k2) ^^^ 2 ^ k7 := ⟨_, rfl⟩
        rw [← hX4] at HF HXs
        clear hX4
        generalize cf M (((X ^^^ 2 ^ k) ^^^ 2 ^ k1) ^^^ 2 ^ k2) = L3 at *
        generalize cf M ((X ^^^ 2 ^ k) ^^^ 2 ^ k1) = L2 at *
        generalize cf M (X ^^^ 2 ^ k) = L1 at *
        generalize cf M X = L0 at *
        generalize b01 ((((X ^^^ 2 ^ k) ^^^ 2 ^ k1) ^^^ 2 ^ k2).testBit k7) = y7 at *
        generalize b01 (((X ^^^ 2 ^ k) ^^^ 2 ^ k1).testBit k2) = y2 at *
        generalize b01 ((X ^^^ 2 ^ k).testBit k1) = y1 at *
        generalize b01 (X.testBit k) = y0 at *
        go_wp2_with (first
            | (have q4 := t4; refine set_lawF _ rfl (.tmp 59) (.tmp 58) 3 rfl .i64 _ g k7 L3 rfl rfl HA4.out (by rw [HLN.out.2.2.2]; omega) i_int ?_; intro w5 A5 B5; rw [HF.out.2.2.2] at A5; have HA5 : Hid (Ar w5 g 0 .i64 (cf M X4)) := A5; have HB5 : Hid (Below w.heap.size w w5) := HB4.out.trans (B5.mono (by omega)); have t5 : (0 : Nat) = 0 := rfl; clear A5 B5)
            | (have q3 := t3; refine set_lawF _ rfl (.tmp 49) (.tmp 48) 3 rfl .i64 _ g k2 L2 rfl rfl HA3.out (by rw [HLN.out.2.2.1]; omega) i_int ?_; intro w4 A4 B4; rw [HF.out.2.2.1] at A4; have d4 := A4.cell0 k7 (by rw [HLN.out.2.2.2]; omega); rw [HY.out.2.2] at d4; have HA4 : Hid (Ar w4 g 0 .i64 L3) := A4; have HB4 : Hid (Below w.heap.size w w4) := HB3.out.trans (B4.mono (by omega)); have t4 : (0 : Nat) = 0 := rfl; clear A4 B4)
            | (have q2 := t2; refine set_lawF _ rfl (.tmp 39) (.tmp 38) 3 rfl .i64 _ g k1 L1 rfl rfl HA2.out (by rw [HLN.out.2.1]; omega) i_int ?_; intro w3 A3 B3; rw [HF.out.2.1] at A3; have d3 := A3.cell0 k2 (by rw [HLN.out.2.2.1]; omega); rw [HY.out.2.1] at d3; have HA3 : Hid (Ar w3 g 0 .i64 L2) := A3; have HB3 : Hid (Below w.heap.size w w3) := HB2.out.trans (B3.mono (by omega)); have t3 : (0 : Nat) = 0 := rfl; clear A3 B3)
            | (refine set_lawF _ rfl (.tmp 29) (.tmp 28) 3 rfl .i64 _ g k L0 rfl rfl HA.out (by rw [HLN.out.1]; omega) i_int ?_; intro w2 A2 B2; rw [HF.out.1] at A2; have d2 := A2.cell0 k1 (by rw [HLN.out.2.1]; omega); rw [HY.out.1] at d2; have HA2 : Hid (Ar w2 g 0 .i64 L1) := A2; have HB2 : Hid (Below w.heap.size w w2) := HB.out.trans (B2.mono (by omega)); have t2 : (0 : Nat) = 0 := rfl; clear A2 B2))

        go_roundw
        case rel => exact ⟨k, X4, by omega, by go_num, HXs.out, HA5.out, HB5.out⟩
        case measure => simp [intOf]; omega
      | false =>
        rw [hbit] at cI
        have cI' : wa.cell? ⟨g, I, none⟩ = some (.int .i64 0) := cI
        clear cI
        have hrs : rs X I = X := by rw [hI] at hbit ⊢; exact rs_not X k hbit
        rw [hrs] at HXs
        have HI : Hid (I = 128 + k) := hI
        clear hrs hbit hI e0
        go_wp2
        go_roundw
        case rel => exact ⟨k, X, by omega, by have := HI.out; go_num, HXs.out, HA.out, HB.out⟩
        case measure => simp [intOf]; omega
    · have hj0 : j = 0 := by omega
      subst hj0
      have HX2 : Hid (X = lf N m) := HX.out
      go_wp2
      go_ret
      rw [← HX2.out]
      have hA4 : Ar wa g 0 .i64 (cf 128 X) := by
        have := HA.out.subG 0 (cf 128 X) (by rw [HL.out, cf_len]; omega) (fun t ht => by
          rw [cf_len] at ht
          rw [Nat.zero_add, cf_gb _ _ _ ht, cf_gb _ _ _ (by omega)])
        exact this
      refine ⟨_, rfl, ⟨g, cap, ?_, by rw [cf_len]; omega, c2, hA4, hA4.lt (by rw [cf_len]; omega)⟩, HB.out⟩
      rw [cf_len]
      rfl
end Go.Proofs.YtbkaecjkgjkheaaGreatDoor.tw

/- What the reference's Double, Times and Mul answer. No claim of its own. -/
namespace Go.Proofs.YtbkaecjkgjkheaaGreatDoor.tw
open Go.RowKit
set_option maxRecDepth 20000

theorem cf_low (X : Nat) : cf 128 X = cf 128 (X % 2 ^ 128) := ext_gb (by rw [cf_len, cf_len]) fun t ht => by
  rw [cf_len] at ht
  rw [cf_gb _ _ _ ht, cf_gb _ _ _ ht, Nat.testBit_mod_two_pow]
  simp [ht]
theorem cf_cons (n : Nat) : 0 :: cf 128 n = cf 129 (2 * n) := ext_gb (by rw [List.length_cons, cf_len, cf_len]) fun t ht => by
  rw [List.length_cons, cf_len] at ht
  rw [cf_gb _ _ _ (by omega)]
  cases t with
  | zero => simp [gb, b01]
  | succ t =>
    have e : gb (0 :: cf 128 n) (t + 1) = gb (cf 128 n) t := by simp [gb, List.getD]
    rw [e, cf_gb _ _ _ (by omega), two_bit]

theorem OwnI.below {B : Nat} {w w' : World} {v : Value} {cs : List Int} (h : OwnI B w v cs) (hb : Below w.heap.size w w') : OwnI B w' v cs :=
  World.ownsRow.kept (row := none) h ⟨hb.os, hb.tape, hb.output, hb.size, fun j hj _ => hb.block j hj⟩ (by cases hv : v.ownBlock <;> simp)

theorem own_mono {B B' : Nat} {w : World} {v : Value} {xs : List Int} (h : Own B w v xs) (hB : B' ≤ B) : Own B' w v xs :=
  ⟨h.1, h.2.imp id fun ⟨g, cap, cur, h1, h2, h3⟩ => ⟨g, cap, cur, h1, Nat.le_trans hB h2, h3⟩⟩

set_option linter.unusedSimpArgs false in
set_option maxRecDepth 20000 in
set_option maxHeartbeats 4000000 in
theorem rdouble_own (v : Value) (xs : List Int) (w : World) (hv : Byt w v xs) (hl : xs.length = 16) :
    Calls Tryz.prog 43 #[v] w fun e w' => ∃ v', e = .returned v' ∧ Own w.heap.size w' v' (bt16 (td (nm16 xs))) ∧ Below w.heap.size w w' := by
  have H1 : Hid (∀ w', Below w.heap.size w w' → Calls Tryz.prog 83 #[v] w' fun e w'' => ∃ v', e = .returned v' ∧ Its w'' v' (cf 128 (nm16 xs)) ∧ Below w'.heap.size w' w'') := fun w' h => rbits_any v xs w' (hv.below h) hl
  have H2 : Hid (∀ w' v1, Its w' v1 (cf 129 (2 * nm16 xs)) → Calls Tryz.prog 82 #[v1] w' fun e w'' => ∃ v', e = .returned v' ∧ Its w'' v' (cf 128 (td (nm16 xs))) ∧ Below w'.heap.size w' w'') := fun w' v1 h => by
    have := rleft_any v1 (2 * nm16 xs) 1 w' (by omega) h
    rw [cf_low, show lf (2 * nm16 xs) 1 % 2 ^ 128 = lft (2 * nm16 xs) 1 from rfl, lft_one] at this
    exact this
  have H3 : Hid (∀ w' v1, Its w' v1 (cf 128 (td (nm16 xs))) → Calls Tryz.prog 81 #[v1] w' fun e w'' => ∃ v', e = .returned v' ∧ Own w'.heap.size w'' v' (bt16 (td (nm16 xs))) ∧ Below w'.heap.size w' w'') := fun w' v1 h => rtold_own v1 _ w' h
  have HC : Hid (0 :: cf 128 (nm16 xs) = cf 129 (2 * nm16 xs) ∧ (cf 128 (nm16 xs)).length = 128 ∧ (cf 129 (2 * nm16 xs)).length = 129) := ⟨cf_cons _, cf_len _ _, cf_len _ _⟩
  clear hv hl
  generalize bt16 (td (nm16 xs)) = zs at *
  generalize cf 128 (td (nm16 xs)) = c3 at *
  generalize cf 129 (2 * nm16 xs) = c2 at *
  generalize cf 128 (nm16 xs) = c1 at *
  go_enter Tryz.func43, Tryz.ntmps43
  have B0 : Below w.heap.size w (w.alloc (.cells #[.int .i64 0] 3)) := (Below.refl _ _).alloc (Nat.le_refl _) _
  have O0 : Hid (OwnI w.heap.size (w.alloc (.cells #[.int .i64 0] 3)) (.slice (some ⟨w.heap.size, 0, none⟩) 1 1) [0]) := OwnI.one w (Nat.le_refl _) 0
  have HB0 : Hid (Below w.heap.size w (w.alloc (.cells #[.int .i64 0] 3))) := B0
  clear B0
  go_wp2_with (first
    | (have q3 := s3; go_at_call 81; refine (H3.out _ _ I3.out).mono ?_; rintro e w4 ⟨v4, rfl, Y4, B4⟩)
    | (have q2 := s2; go_at_call 82; refine (H2.out _ _ I2.out).mono ?_; rintro e w3 ⟨v3, rfl, J3, B3⟩; have s3 := B3.size; have I3 : Hid (Its w3 v3 c3) := J3; clear J3)
    | (at_builtin; have q1 := s1; refine pushs_lawI _ rfl (.tmp 3) (.tmp 5) rfl w.heap.size (by have := HB0.out.size; omega) _ v1 [0] c1 rfl rfl (O0.out.below B1) I1.out (by simp) (by rw [HC.out.2.1]; omega) ?_; intro v2 w2 O2 B2; have s2 := B2.size; have I2 : Hid (Its w2 v2 c2) := (by
        show Its _ _ _
        have := O2
        rw [List.singleton_append, HC.out.1] at this
        obtain ⟨g, cap, e, h1, h2, h3, h4, h5⟩ := this.its (by rw [HC.out.2.2]; omega)
        exact ⟨g, cap, e, h1, h2, h5, h4⟩); clear O2)
    | (go_at_call 83; refine (H1.out _ HB0.out).mono ?_; rintro e w1 ⟨v1, rfl, J1, B1⟩; have s1 := B1.size; have I1 : Hid (Its w1 v1 c1) := J1; clear J1))
  have z0 := HB0.out.size
  go_ret
  exact ⟨_, rfl, own_mono Y4 (by omega), (((HB0.out.trans (B1.mono z0)).trans B2).trans (B3.mono (by omega))).trans (B4.mono (by omega))⟩
theorem rdouble_any (v : Value) (xs : List Int) (w : World) (hv : Byt w v xs) (hl : xs.length = 16) :
    Calls Tryz.prog 43 #[v] w fun e w' => ∃ v', e = .returned v' ∧ Byt w' v' (bt16 (td (nm16 xs))) ∧ Below w.heap.size w w' :=
  (rdouble_own v xs w hv hl).mono fun _ _ ⟨v', h1, h2, h3⟩ => ⟨v', h1, h2.byt (bt16_all _), h3⟩

theorem cf_zero (n : Nat) : cf n 0 = List.replicate n 0 := ext_gb (by rw [cf_len, List.length_replicate]) fun t ht => by
  rw [cf_len] at ht
  rw [cf_gb _ _ _ ht]
  simp [b01, gb, List.getD, ht]
end Go.Proofs.YtbkaecjkgjkheaaGreatDoor.tw

