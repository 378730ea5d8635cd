/- Texts put together (a claim holds few files). No claim of its own. -/
import Derived.Test.YtifepmdhbhdjpaaPackL
import Derived.Test.YtifepmdhbhdjpaaPackF
import Derived.Test.YtifepmdhbhdjpaaPackB
import Derived.Test.YtifepmdhbhdjpaaPackC
import Derived.Test.YtifepmdhbhdjpaaPackK
/- What the reference's Encrypt and Decrypt answer. No claim of its own. -/
namespace Go.Proofs.Ytifepmdhbhdjpaa
open Go.RowKit
set_option maxRecDepth 20000

set_option maxRecDepth 20000 in
set_option maxHeartbeats 8000000 in
theorem rencrypt_any (kv bv tv : Value) (key bs : List Int) (w : World) (hk : Byt w kv key) (hkl : key.length = 32) (hb : Byt w bv bs) (hbl : bs.length = 16) (ht : Byt w tv ptab) :
    Calls Try.prog 39 #[kv, bv, tv] w fun e w' => ∃ v', e = .returned v' ∧ Byt w' v' (encr key bs) ∧ Below w.heap.size w w' := by
  have hka := hk.all
  have hbb : Blk bs := ⟨hbl, hb.all⟩
  have HK : Hid (Byt w kv key) := hk
  have HB : Hid (Byt w bv bs) := hb
  have HT : Hid (Byt w tv ptab) := ht
  have S1 : Hid (∀ v tv w0, Byt w0 v key → Byt w0 tv ptab → Calls Try.prog 42 #[v, tv] w0 fun e w' => ∃ v', e = .returned v' ∧ Wds w' v' key ∧ Below w0.heap.size w0 w') := fun v tv w0 h h' => rexpand_any v tv key w0 h hkl h'
  have S2 : Hid (∀ v r w0, Wds w0 v key → r ≤ 14 → Calls Try.prog 45 #[v, .int .i64 (r : Nat)] w0 fun e w' => ∃ v', e = .returned v' ∧ Byt w' v' (rk key r) ∧ Below w0.heap.size w0 w') := fun v r w0 h hr => rround_any v key r w0 h hkl hka hr
  have S3 : Hid (∀ va vb xs ys w0, Blk xs → Blk ys → Byt w0 va xs → Byt w0 vb ys → Calls Try.prog 44 #[va, vb] w0 fun e w' => ∃ v, e = .returned v ∧ Byt w' v (xorl xs ys) ∧ Below w0.heap.size w0 w') := fun va vb xs ys w0 hx hy h h' => rxor_any va vb xs ys w0 h h' (by rw [hx.1, hy.1]) (by rw [hx.1]; omega)
  have S4 : Hid (∀ v tv xs w0, Blk xs → Byt w0 v xs → Byt w0 tv ptab → Calls Try.prog 47 #[v, tv] w0 fun e w' => ∃ v', e = .returned v' ∧ Byt w' v' (looked ptab xs) ∧ Below w0.heap.size w0 w') := fun v tv xs w0 hx h h' => rput_any v tv xs ptab w0 h h' ptab_len (by rw [hx.1]; omega)
  have S5 : Hid (∀ v xs w0, Blk xs → Byt w0 v xs → Calls Try.prog 48 #[v, .int .i64 1] w0 fun e w' => ∃ v', e = .returned v' ∧ Byt w' v' (shl16 xs 1) ∧ Below w0.heap.size w0 w') := fun v xs w0 hx h => (rshift_any v xs 1 w0 h hx.1 (by omega)).mono fun _ _ ⟨g, he, hA, _, hbl⟩ => ⟨_, he, hA.bytG (shl16_all _ _ hx.2) 16 16 (shl16_len _ _) (by omega) (by omega), hbl⟩
  have S6 : Hid (∀ v xs w0, Blk xs → Byt w0 v xs → Calls Try.prog 46 #[v, .agg (ints .u8 (cI mixW))] w0 fun e w' => ∃ v', e = .returned v' ∧ Byt w' v' (mixb xs mixW) ∧ Below w0.heap.size w0 w') := fun v xs w0 hx h => rmixed_any v xs mixW w0 h hx.1 mixW_col
  have HMW : Hid (ints .u8 (cI mixW) = #[.int .u8 2, .int .u8 3, .int .u8 1, .int .u8 1]) := rfl
  have HEB : Hid (∀ r, Blk (enc key bs r)) := fun r => enc_blk key hkl hka bs hbb r
  have HKB : Hid (∀ r, Blk (rk key r)) := fun r => rk_blk key hkl hka r
  have HBB : Hid (Blk bs) := hbb
  have HPB : Hid (∀ xs, Blk xs → Blk (looked ptab xs)) := fun xs h => looked_blk ptab xs pAll h.1
  have HE0 : Hid (enc key bs 0 = xorl bs (rk key 0)) := rfl
  have HES : Hid (∀ r, r < 13 → enc key bs (r + 1) = xorl (mixb (shl16 (looked ptab (enc key bs r)) 1) mixW) (rk key (r + 1))) := fun r hr => by
    rw [enc, fw, mx, if_pos (by omega)]
  have HEL : Hid (encr key bs = xorl (shl16 (looked ptab (enc key bs 13)) 1) (rk key 14)) := by
    show _ = _
    rw [encr, enc, fw, mx, if_neg (by omega)]
  have HZ : Hid (encr key bs = enc key bs 14) := rfl
  generalize encr key bs = zs at *
  generalize ptab = tab at *
  clear hk hb ht hka hbb hkl hbl
  go_enter Try.func39, Try.ntmps39
  go_wp2_with (first
    | (go_at_call 44; refine (S3.out _ _ bs (rk key 0) _ HBB.out (HKB.out 0) (HB2.out) R2.out).mono ?_; rintro e w3 ⟨v3, rfl, y3, B3⟩; have Y3 : Hid (Byt w3 v3 (enc key bs 0)) := (by rw [HE0.out]; exact y3); have BC : Hid (Below w1.heap.size w1 w3) := BC2.out.trans (B3.mono BC2.out.size); clear y3 B3)
    | (go_at_call 45; refine (S2.out _ 0 _ D1.out (by omega)).mono ?_; rintro e w2 ⟨v2, rfl, y2, B2⟩; have R2 : Hid (Byt w2 v2 (rk key 0)) := y2; have HB2 : Hid (Byt w2 bv bs) := (HB.out.below B1).below B2; have BC2 : Hid (Below w1.heap.size w1 w2) := B2; clear y2 B2)
    | (go_at_call 42; refine (S1.out _ _ _ HK.out HT.out).mono ?_; rintro e w1 ⟨wv, rfl, d1, B1⟩; have D1 : Hid (Wds w1 wv key) := d1; have T1 : Hid (Byt w1 tv tab) := HT.out.below B1; clear d1))
  clear HK HB HT S1
  go_loopw [8, 9] (fun v i wr => ∃ r : Nat, 1 ≤ r ∧ r ≤ 15 ∧ i = .int .i64 r ∧ Byt wr v (enc key bs (r - 1)) ∧ Below w1.heap.size w1 wr) (fun _ i _ => 15 - (intOf i).toNat)
  case atStart => exact ⟨1, Nat.le_refl _, by omega, rfl, Y3.out, BC.out⟩
  case round =>
    obtain ⟨r, hr1, hr, rfl, hY, hB⟩ := hrel
    clear Y3 BC R2 HB2 BC2
    have q0 : (0 : Int) ≤ (r : Int) := by omega
    have q1 : IntKind.i64.wrap (r : Int) = r := by rw [IntKind.wrap_i64]; omega
    by_cases hlt : r ≤ 14
    · have k1 : (r : Int) ≤ 14 := by omega
      have Y0 : Hid (Byt wr u8 (enc key bs (r - 1))) := hY
      have BB : Hid (Below w1.heap.size w1 wr) := hB
      have sb0 := HEB.out (r - 1)
      have sb1 := HPB.out _ sb0
      have sb2 := shl16_blk _ 1 sb1
      have Q0 : Hid (Blk (enc key bs (r - 1))) := sb0
      have Q1 : Hid (Blk (looked tab (enc key bs (r - 1)))) := sb1
      have Q2 : Hid (Blk (shl16 (looked tab (enc key bs (r - 1))) 1)) := sb2
      have QK : Hid (Blk (rk key r)) := HKB.out r
      clear hY sb0 sb1 sb2
      by_cases hlt2 : r < 14
      · have k2 : (r : Int) < 14 := by omega
        have Q3 : Hid (Blk (mixb (shl16 (looked tab (enc key bs (r - 1))) 1) mixW)) := mixb_blk _ _ mixW_col
        have EN : Hid (enc key bs (r + 1 - 1) = xorl (mixb (shl16 (looked tab (enc key bs (r - 1))) 1) mixW) (rk key r)) := by
          have e := HES.out (r - 1) (by omega)
          rw [show r - 1 + 1 = r by omega] at e
          exact e
        go_wp2_with (first
          | (go_at_call 44; refine (S3.out _ _ (mixb (shl16 (looked tab (enc key bs (r - 1))) 1) mixW) (rk key r) _ Q3.out QK.out Ye.out Yd.out).mono ?_; rintro e we ⟨ve, rfl, ye, B_⟩; have Yf : Hid (Byt we ve (enc key bs (r + 1 - 1))) := (by rw [EN.out]; exact ye); have BB : Hid (Below w1.heap.size w1 we) := BB.out.trans (B_.mono BB.out.size); clear ye B_)
          | (go_at_call 45; refine (S2.out _ r _ (D1.out.below BB.out) hlt).mono ?_; rintro e wd_ ⟨vd, rfl, yd, B_⟩; have Yd : Hid (Byt wd_ vd (rk key r)) := yd; have Ye : Hid (Byt wd_ _ (mixb (shl16 (looked tab (enc key bs (r - 1))) 1) mixW)) := Yc.out.below B_; have BB : Hid (Below w1.heap.size w1 wd_) := BB.out.trans (B_.mono BB.out.size); clear yd B_)
          | (go_at_call 46; refine (S6.out _ (shl16 (looked tab (enc key bs (r - 1))) 1) _ Q2.out Yb.out).mono ?_; rintro e wc ⟨vc, rfl, yc, B_⟩; have Yc : Hid (Byt wc vc (mixb (shl16 (looked tab (enc key bs (r - 1))) 1) mixW)) := yc; have BB : Hid (Below w1.heap.size w1 wc) := BB.out.trans (B_.mono BB.out.size); clear yc B_)
          | (refine build_law _ rfl 73 _ rfl (.agg (ints .u8 (cI mixW))) (by kernel_rfl) ?_)
          | (go_at_call 48; refine (S5.out _ (looked tab (enc key bs (r - 1))) _ Q1.out Ya.out).mono ?_; rintro e wb ⟨vb, rfl, yb, B_⟩; have Yb : Hid (Byt wb vb (shl16 (looked tab (enc key bs (r - 1))) 1)) := yb; have BB : Hid (Below w1.heap.size w1 wb) := BB.out.trans (B_.mono BB.out.size); clear yb B_)
          | (go_at_call 47; refine (S4.out _ _ (enc key bs (r - 1)) _ Q0.out Y0.out (T1.out.below BB.out)).mono ?_; rintro e wa ⟨va, rfl, ya, B_⟩; have Ya : Hid (Byt wa va (looked tab (enc key bs (r - 1)))) := ya; have BB : Hid (Below w1.heap.size w1 wa) := BB.out.trans (B_.mono BB.out.size); clear ya B_))
        go_roundw
        case rel => exact ⟨r + 1, by omega, by omega, by go_num, Yf.out, BB.out⟩
        case measure => simp [intOf]; omega
      · have k2 : ¬ (r : Int) < 14 := by omega
        have EN : Hid (enc key bs (r + 1 - 1) = xorl (shl16 (looked tab (enc key bs (r - 1))) 1) (rk key r)) := by
          have : r = 14 := by omega
          subst this
          have e := HEL.out
          rw [HZ.out] at e
          exact e
        go_wp2_with (first
          | (go_at_call 44; refine (S3.out _ _ (shl16 (looked tab (enc key bs (r - 1))) 1) (rk key r) _ Q2.out QK.out Ye.out Yd.out).mono ?_; rintro e we ⟨ve, rfl, ye, B_⟩; have Yf : Hid (Byt we ve (enc key bs (r + 1 - 1))) := (by rw [EN.out]; exact ye); have BB : Hid (Below w1.heap.size w1 we) := BB.out.trans (B_.mono BB.out.size); clear ye B_)
          | (go_at_call 45; refine (S2.out _ r _ (D1.out.below BB.out) hlt).mono ?_; rintro e wd_ ⟨vd, rfl, yd, B_⟩; have Yd : Hid (Byt wd_ vd (rk key r)) := yd; have Ye : Hid (Byt wd_ _ (shl16 (looked tab (enc key bs (r - 1))) 1)) := Yb.out.below B_; have BB : Hid (Below w1.heap.size w1 wd_) := BB.out.trans (B_.mono BB.out.size); clear yd B_)
          | (go_at_call 48; refine (S5.out _ (looked tab (enc key bs (r - 1))) _ Q1.out Ya.out).mono ?_; rintro e wb ⟨vb, rfl, yb, B_⟩; have Yb : Hid (Byt wb vb (shl16 (looked tab (enc key bs (r - 1))) 1)) := yb; have BB : Hid (Below w1.heap.size w1 wb) := BB.out.trans (B_.mono BB.out.size); clear yb B_)
          | (go_at_call 47; refine (S4.out _ _ (enc key bs (r - 1)) _ Q0.out Y0.out (T1.out.below BB.out)).mono ?_; rintro e wa ⟨va, rfl, ya, B_⟩; have Ya : Hid (Byt wa va (looked tab (enc key bs (r - 1)))) := ya; have BB : Hid (Below w1.heap.size w1 wa) := BB.out.trans (B_.mono BB.out.size); clear ya B_))
        go_roundw
        case rel => exact ⟨r + 1, by omega, by omega, by go_num, Yf.out, BB.out⟩
        case measure => simp [intOf]; omega
    · have hr15 : r = 15 := by omega
      have kn : ¬ (r : Int) ≤ 14 := by omega
      have YZ : Hid (Byt wr u8 zs) := by
        rw [HZ.out]
        have h := hY
        rw [hr15] at h
        exact h
      clear hY
      go_wp2
      go_ret
      exact ⟨_, rfl, YZ.out, B1.trans (hB.mono B1.size)⟩

set_option maxRecDepth 20000 in
set_option maxHeartbeats 8000000 in
theorem rdecrypt_any (kv bv tv : Value) (key bs : List Int) (w : World) (hk : Byt w kv key) (hkl : key.length = 32) (hb : Byt w bv bs) (hbl : bs.length = 16) (ht : Byt w tv ptab) :
    Calls Try.prog 24 #[kv, bv, tv] w fun e w' => ∃ v', e = .returned v' ∧ Byt w' v' (decr key bs) ∧ Below w.heap.size w w' := by
  have hka := hk.all
  have hbb : Blk bs := ⟨hbl, hb.all⟩
  have HK : Hid (Byt w kv key) := hk
  have HB : Hid (Byt w bv bs) := hb
  have HT : Hid (Byt w tv ptab) := ht
  have S1 : Hid (∀ v tv w0, Byt w0 v key → Byt w0 tv ptab → Calls Try.prog 42 #[v, tv] w0 fun e w' => ∃ v', e = .returned v' ∧ Wds w' v' key ∧ Below w0.heap.size w0 w') := fun v tv w0 h h' => rexpand_any v tv key w0 h hkl h'
  have S7 : Hid (∀ tv w0, Byt w0 tv ptab → Calls Try.prog 43 #[tv] w0 fun e w' => ∃ v', e = .returned v' ∧ Byt w' v' btab ∧ Below w0.heap.size w0 w') := fun tv w0 h => rturnedT_any tv w0 h
  have S2 : Hid (∀ v r w0, Wds w0 v key → r ≤ 14 → Calls Try.prog 45 #[v, .int .i64 (r : Nat)] w0 fun e w' => ∃ v', e = .returned v' ∧ Byt w' v' (rk key r) ∧ Below w0.heap.size w0 w') := fun v r w0 h hr => rround_any v key r w0 h hkl hka hr
  have S3 : Hid (∀ va vb xs ys w0, Blk xs → Blk ys → Byt w0 va xs → Byt w0 vb ys → Calls Try.prog 44 #[va, vb] w0 fun e w' => ∃ v, e = .returned v ∧ Byt w' v (xorl xs ys) ∧ Below w0.heap.size w0 w') := fun va vb xs ys w0 hx hy h h' => rxor_any va vb xs ys w0 h h' (by rw [hx.1, hy.1]) (by rw [hx.1]; omega)
  have S4 : Hid (∀ v tv xs w0, Blk xs → Byt w0 v xs → Byt w0 tv btab → Calls Try.prog 47 #[v, tv] w0 fun e w' => ∃ v', e = .returned v' ∧ Byt w' v' (looked btab xs) ∧ Below w0.heap.size w0 w') := fun v tv xs w0 hx h h' => rput_any v tv xs btab w0 h h' btab_len (by rw [hx.1]; omega)
  have S5 : Hid (∀ v xs w0, Blk xs → Byt w0 v xs → Calls Try.prog 48 #[v, .int .i64 3] w0 fun e w' => ∃ v', e = .returned v' ∧ Byt w' v' (shl16 xs 3) ∧ Below w0.heap.size w0 w') := fun v xs w0 hx h => (rshift_any v xs 3 w0 h hx.1 (by omega)).mono fun _ _ ⟨g, he, hA, _, hbl⟩ => ⟨_, he, hA.bytG (shl16_all _ _ hx.2) 16 16 (shl16_len _ _) (by omega) (by omega), hbl⟩
  have S6 : Hid (∀ v xs w0, Blk xs → Byt w0 v xs → Calls Try.prog 46 #[v, .agg (ints .u8 (cI unmW))] w0 fun e w' => ∃ v', e = .returned v' ∧ Byt w' v' (mixb xs unmW) ∧ Below w0.heap.size w0 w') := fun v xs w0 hx h => rmixed_any v xs unmW w0 h hx.1 unmW_col
  have HEB : Hid (∀ k, Blk (dec key bs k)) := fun k => dec_blk key bs hbb k
  have HKB : Hid (∀ r, Blk (rk key r)) := fun r => rk_blk key hkl hka r
  have HES : Hid (∀ r, 1 ≤ r → r < 14 → dec key bs (14 - (r - 1)) = looked btab (shl16 (mixb (xorl (dec key bs (14 - r)) (rk key r)) unmW) 3)) := fun r hr1 hr => by
    rw [show 14 - (r - 1) = (14 - r) + 1 by omega, dec, show 14 - (14 - r) = r by omega, bw, um, if_pos hr]
  have HEF : Hid (∀ r, r = 14 → dec key bs (14 - (r - 1)) = looked btab (shl16 (xorl (dec key bs (14 - r)) (rk key r)) 3)) := fun r hr => by
    subst hr
    show looked btab (shl16 (um 14 (xorl (dec key bs 0) (rk key 14))) 3) = looked btab (shl16 (xorl (dec key bs 0) (rk key 14)) 3)
    rw [um, if_neg (by omega)]
  have HEL : Hid (decr key bs = xorl (dec key bs 14) (rk key 0)) := rfl
  have HD0 : Hid (dec key bs 0 = bs) := rfl
  generalize decr key bs = zs at *
  generalize ptab = tab at *
  generalize btab = btb at *
  clear hk hb ht hka hbb hkl hbl
  go_enter Try.func24, Try.ntmps24
  go_wp2_with (first
    | (go_at_call 43; refine (S7.out _ _ T1.out).mono ?_; rintro e w2 ⟨tb2, rfl, y2, B2⟩; have TB : Hid (Byt w2 tb2 btb) := y2; have D2_ : Hid (Wds w2 wv key) := D1.out.below B2; have Y2 : Hid (Byt w2 bv (dec key bs 0)) := (by rw [HD0.out]; exact (HB.out.below B1).below B2); clear y2)
    | (go_at_call 42; refine (S1.out _ _ _ HK.out HT.out).mono ?_; rintro e w1 ⟨wv, rfl, d1, B1⟩; have D1 : Hid (Wds w1 wv key) := d1; have T1 : Hid (Byt w1 tv tab) := HT.out.below B1; clear d1))
  have B12 : Below w.heap.size w w2 := B1.trans (B2.mono B1.size)
  clear HK HB HT S1 S7 D1 T1
  go_loopw [9, 10] (fun v i wr => ∃ r : Nat, r ≤ 14 ∧ i = .int .i64 r ∧ Byt wr v (dec key bs (14 - r)) ∧ Below w2.heap.size w2 wr) (fun _ i _ => (intOf i).toNat)
  case atStart => exact ⟨14, Nat.le_refl _, rfl, Y2.out, Below.refl _ _⟩
  case round =>
    obtain ⟨r, hr, rfl, hY, hB⟩ := hrel
    clear Y2
    have q0 : (0 : Int) ≤ (r : Int) := by omega
    have q1 : IntKind.i64.wrap (r : Int) = r := by rw [IntKind.wrap_i64]; omega
    have Y0 : Hid (Byt wr u9 (dec key bs (14 - r))) := hY
    have BB : Hid (Below w2.heap.size w2 wr) := hB
    have Q0 : Hid (Blk (dec key bs (14 - r))) := HEB.out _
    have QK : Hid (Blk (rk key r)) := HKB.out r
    clear hY
    by_cases hlt : 1 ≤ r
    · have k1 : (1 : Int) ≤ (r : Int) := by omega
      have Q1 : Hid (Blk (xorl (dec key bs (14 - r)) (rk key r))) := xorl_blk _ _ Q0.out QK.out
      obtain ⟨r1, hr1⟩ : ∃ q, q = r - 1 := ⟨_, rfl⟩
      have t1 : (r : Int) - 1 = (r1 : Int) := by omega
      have t2 : IntKind.i64.wrap (r1 : Int) = r1 := by rw [IntKind.wrap_i64]; omega
      by_cases hlt2 : r < 14
      · have k2 : (r : Int) < 14 := by omega
        have Q2 : Hid (Blk (mixb (xorl (dec key bs (14 - r)) (rk key r)) unmW)) := mixb_blk _ _ unmW_col
        have Q3 : Hid (Blk (shl16 (mixb (xorl (dec key bs (14 - r)) (rk key r)) unmW) 3)) := shl16_blk _ 3 Q2.out
        have EN : Hid (dec key bs (14 - (r - 1)) = looked btb (shl16 (mixb (xorl (dec key bs (14 - r)) (rk key r)) unmW) 3)) := HES.out r hlt hlt2
        go_wp2_with (first
          | (go_at_call 47; refine (S4.out _ _ (shl16 (mixb (xorl (dec key bs (14 - r)) (rk key r)) unmW) 3) _ Q3.out Yd.out (TB.out.below BB.out)).mono ?_; rintro e we ⟨ve, rfl, ye, B_⟩; have Yf : Hid (Byt we ve (dec key bs (14 - (r - 1)))) := (by rw [EN.out]; exact ye); have BB : Hid (Below w2.heap.size w2 we) := BB.out.trans (B_.mono BB.out.size); clear ye B_)
          | (go_at_call 48; refine (S5.out _ (mixb (xorl (dec key bs (14 - r)) (rk key r)) unmW) _ Q2.out Yc.out).mono ?_; rintro e wd_ ⟨vd, rfl, yd, B_⟩; have Yd : Hid (Byt wd_ vd (shl16 (mixb (xorl (dec key bs (14 - r)) (rk key r)) unmW) 3)) := yd; have BB : Hid (Below w2.heap.size w2 wd_) := BB.out.trans (B_.mono BB.out.size); clear yd B_)
          | (go_at_call 46; refine (S6.out _ (xorl (dec key bs (14 - r)) (rk key r)) _ Q1.out Yb.out).mono ?_; rintro e wc ⟨vc, rfl, yc, B_⟩; have Yc : Hid (Byt wc vc (mixb (xorl (dec key bs (14 - r)) (rk key r)) unmW)) := yc; have BB : Hid (Below w2.heap.size w2 wc) := BB.out.trans (B_.mono BB.out.size); clear yc B_)
          | (refine build_law _ rfl 73 _ rfl (.agg (ints .u8 (cI unmW))) (by kernel_rfl) ?_)
          | (go_at_call 44; refine (S3.out _ _ (dec key bs (14 - r)) (rk key r) _ Q0.out QK.out Y0a.out Ya.out).mono ?_; rintro e wb ⟨vb, rfl, yb, B_⟩; have Yb : Hid (Byt wb vb (xorl (dec key bs (14 - r)) (rk key r))) := yb; have BB : Hid (Below w2.heap.size w2 wb) := BB.out.trans (B_.mono BB.out.size); clear yb B_)
          | (go_at_call 45; refine (S2.out _ r _ (D2_.out.below BB.out) hr).mono ?_; rintro e wa ⟨va, rfl, ya, B_⟩; have Ya : Hid (Byt wa va (rk key r)) := ya; have Y0a : Hid (Byt wa _ (dec key bs (14 - r))) := Y0.out.below B_; have BB : Hid (Below w2.heap.size w2 wa) := BB.out.trans (B_.mono BB.out.size); clear ya B_))
        go_roundw
        case rel => exact ⟨r1, by omega, by rw [hr1], by rw [hr1]; exact Yf.out, BB.out⟩
        case measure => simp [intOf]; omega
      · have k2 : ¬ (r : Int) < 14 := by omega
        have Q3 : Hid (Blk (shl16 (xorl (dec key bs (14 - r)) (rk key r)) 3)) := shl16_blk _ 3 Q1.out
        have EN : Hid (dec key bs (14 - (r - 1)) = looked btb (shl16 (xorl (dec key bs (14 - r)) (rk key r)) 3)) := HEF.out r (by omega)
        go_wp2_with (first
          | (go_at_call 47; refine (S4.out _ _ (shl16 (xorl (dec key bs (14 - r)) (rk key r)) 3) _ Q3.out Yd.out (TB.out.below BB.out)).mono ?_; rintro e we ⟨ve, rfl, ye, B_⟩; have Yf : Hid (Byt we ve (dec key bs (14 - (r - 1)))) := (by rw [EN.out]; exact ye); have BB : Hid (Below w2.heap.size w2 we) := BB.out.trans (B_.mono BB.out.size); clear ye B_)
          | (go_at_call 48; refine (S5.out _ (xorl (dec key bs (14 - r)) (rk key r)) _ Q1.out Yb.out).mono ?_; rintro e wd_ ⟨vd, rfl, yd, B_⟩; have Yd : Hid (Byt wd_ vd (shl16 (xorl (dec key bs (14 - r)) (rk key r)) 3)) := yd; have BB : Hid (Below w2.heap.size w2 wd_) := BB.out.trans (B_.mono BB.out.size); clear yd B_)
          | (go_at_call 44; refine (S3.out _ _ (dec key bs (14 - r)) (rk key r) _ Q0.out QK.out Y0a.out Ya.out).mono ?_; rintro e wb ⟨vb, rfl, yb, B_⟩; have Yb : Hid (Byt wb vb (xorl (dec key bs (14 - r)) (rk key r))) := yb; have BB : Hid (Below w2.heap.size w2 wb) := BB.out.trans (B_.mono BB.out.size); clear yb B_)
          | (go_at_call 45; refine (S2.out _ r _ (D2_.out.below BB.out) hr).mono ?_; rintro e wa ⟨va, rfl, ya, B_⟩; have Ya : Hid (Byt wa va (rk key r)) := ya; have Y0a : Hid (Byt wa _ (dec key bs (14 - r))) := Y0.out.below B_; have BB : Hid (Below w2.heap.size w2 wa) := BB.out.trans (B_.mono BB.out.size); clear ya B_))
        go_roundw
        case rel => exact ⟨r1, by omega, by rw [hr1], by rw [hr1]; exact Yf.out, BB.out⟩
        case measure => simp [intOf]; omega
    · have hr0 : r = 0 := by omega
      have kn : ¬ (1 : Int) ≤ (r : Int) := by omega
      have Y14 : Hid (Byt wr u9 (dec key bs 14)) := by
        have h := Y0.out
        rw [hr0] at h
        exact h
      clear Y0
      go_wp2_with (first
        | (go_at_call 44; refine (S3.out _ _ (dec key bs 14) (rk key 0) _ (HEB.out 14) (HKB.out 0) Y0a.out Ya.out).mono ?_; rintro e wb ⟨vb, rfl, yb, B_⟩; have Yb : Hid (Byt wb vb zs) := (by rw [HEL.out]; exact yb); have BB : Hid (Below w2.heap.size w2 wb) := BB.out.trans (B_.mono BB.out.size); clear yb B_)
        | (go_at_call 45; refine (S2.out _ 0 _ (D2_.out.below BB.out) (by omega)).mono ?_; rintro e wa ⟨va, rfl, ya, B_⟩; have Ya : Hid (Byt wa va (rk key 0)) := ya; have Y0a : Hid (Byt wa _ (dec key bs 14)) := Y14.out.below B_; have BB : Hid (Below w2.heap.size w2 wa) := BB.out.trans (B_.mono BB.out.size); clear ya B_))
      go_ret
      exact ⟨_, rfl, Yb.out, B12.trans (BB.out.mono B12.size)⟩
end Go.Proofs.Ytifepmdhbhdjpaa

/- One law a kind of operation, in a region that draws its order: slices of bytes, sums, an empty slice, appending; and what the reference's mixed answers. No claim of its own. -/
namespace Go.Proofs.Ytifepmdhbhdjpaa.wr
open Go.RowKit
set_option maxRecDepth 20000

/-- 'v[l:h]' of bytes, as a value -/
def sl : Value → Nat → Nat → Value
  | .slice ao _ cap, l, h => sliced ao l h cap 1
  | _, _, _ => undef
theorem sl_byt {w : World} {v : Value} {xs : List Int} (hb : Byt w v xs) (l h : Nat) (hl : l ≤ h) (hh : h ≤ xs.length) : Byt w (sl v l h) ((xs.take h).drop l) := by
  obtain ⟨ao, cap, rfl, hc, hb'⟩ := byt_cut hb l h hl hh
  exact hb'
theorem sl_to {w : World} {v : Value} {xs : List Int} (hb : Byt w v xs) (h : Nat) (hh : h ≤ xs.length) : Byt w (sl v 0 h) (xs.take h) := by
  have := sl_byt hb 0 h (Nat.zero_le _) hh
  rwa [List.drop_zero] at this
theorem sl_from {w : World} {v : Value} {xs : List Int} (hb : Byt w v xs) (l : Nat) (hl : l ≤ xs.length) : Byt w (sl v l xs.length) (xs.drop l) := by
  have := sl_byt hb l xs.length hl (Nat.le_refl _)
  rwa [List.take_length] at this

section
variable {ops : Array Oper} {o : Oper} {a : Act}
theorem y_to (hw : Region.wanted o (yielded ops a.tmps) = true) (s x : Operand) (hop : o.op = Op.slice 22 s none (some x) none) (v : Value) (xs : List Int) (w0 : World) (hb : Byt w0 v xs) (L : Int) (h : Nat) (hs : a.eval s = v) (hx : a.eval x = .int .i64 L) (hL : L = (h : Int)) (hh : h ≤ xs.length) : Yields Try.prog ops o (sl v 0 h) a := by
  refine Or.inl ⟨hw, fun w => ?_⟩
  obtain ⟨ao, cap, rfl, hc, -⟩ := byt_cut hb 0 h (Nat.zero_le _) hh
  have hrun := run_slice_h (P := Try.prog) w 22 ao xs.length cap und_bytes .i64 L (by omega) (by omega)
  rw [elem_bytes, run_size_u8] at hrun
  subst hL
  simp [execOp, hop, hs, hx, run_sliceAt_slice w 22 _ _ _ _ und_bytes, hrun, Result.andThen, sl]
theorem y_part (hw : Region.wanted o (yielded ops a.tmps) = true) (s x y : Operand) (hop : o.op = Op.slice 22 s (some x) (some y) none) (v : Value) (xs : List Int) (w0 : World) (hb : Byt w0 v xs) (L H : Int) (l h : Nat) (hs : a.eval s = v) (hx : a.eval x = .int .i64 L) (hy : a.eval y = .int .i64 H) (hL : L = (l : Int)) (hH : H = (h : Int)) (hl : l ≤ h) (hh : h ≤ xs.length) : Yields Try.prog ops o (sl v l h) a := by
  refine Or.inl ⟨hw, fun w => ?_⟩
  obtain ⟨ao, cap, rfl, hc, -⟩ := byt_cut hb l h hl hh
  have hrun := run_slice_lh (P := Try.prog) w 22 ao xs.length cap und_bytes .i64 .i64 L H (by omega) (by omega) (by omega)
  rw [elem_bytes, run_size_u8] at hrun
  subst hL
  subst hH
  simp [execOp, hop, hs, hx, hy, run_sliceAt_slice w 22 _ _ _ _ und_bytes, hrun, Result.andThen, sl]
theorem y_from (hw : Region.wanted o (yielded ops a.tmps) = true) (s x : Operand) (hop : o.op = Op.slice 22 s (some x) none none) (v : Value) (xs : List Int) (w0 : World) (hb : Byt w0 v xs) (L : Int) (l : Nat) (hs : a.eval s = v) (hx : a.eval x = .int .i64 L) (hL : L = (l : Int)) (hl : l ≤ xs.length) : Yields Try.prog ops o (sl v l xs.length) a := by
  refine Or.inl ⟨hw, fun w => ?_⟩
  obtain ⟨ao, cap, rfl, hc, -⟩ := byt_cut hb l xs.length hl (Nat.le_refl _)
  have hrun := run_slice_l (P := Try.prog) w 22 ao xs.length cap und_bytes .i64 L (by omega) (by omega)
  rw [elem_bytes, run_size_u8] at hrun
  subst hL
  simp [execOp, hop, hs, hx, run_sliceAt_slice w 22 _ _ _ _ und_bytes, hrun, Result.andThen, sl]
theorem y_add (hw : Region.wanted o (yielded ops a.tmps) = true) (x y : Operand) (hop : o.op = Op.binOp .add 3 x y 3) (A B q : Int) (hx : a.eval x = .int .i64 A) (hy : a.eval y = .int .i64 B) (hq : IntKind.i64.wrap (A + B) = q) : Yields Try.prog ops o (.int .i64 q) a := by
  refine Or.inl ⟨hw, fun w => ?_⟩
  subst hq
  unfold execOp
  simp only [hop, hx, hy]
  rfl
variable {Q : Exit → Act → World → Prop} {K : Act → World → Prop} {E : Prop}
/-- '[]byte{}' -/
theorem step_nil (w : World) (hg : o.guard = none) (d : Option Tmp) (hd : o.dst = d) (hop : o.op = Op.buildSlice 22 0 #[])
    (hK : ∀ v w', Own w.heap.size w' v [] → Below w.heap.size w w' → K (a.put d v) w') : if Region.wanted o (yielded ops a.tmps) = true then Oper.wp Try.prog o a w K Q else E := by
  have hw : Region.wanted o (yielded ops a.tmps) = true := by simp [Region.wanted, hg]
  rw [if_pos hw]
  subst hd
  have hrun : (Instr.buildSlice 22 0 #[]).run Try.prog w = .ok (.slice (some ⟨w.heap.size, 0, none⟩) 0 0) (w.alloc (.cells #[] 5)) := by kernel_rfl
  unfold Oper.wp execOp
  simp only [hop, List.map_toArray, List.map_nil, Sem.run_bind, Sem.run_pure, Result.andThen_ok, hrun]
  exact hK _ _ (Own.empty w (Nat.le_refl _)) ((Below.refl _ _).alloc (Nat.le_refl _) _)
/-- 'append(out, s...)' of bytes, out of the call's own -/
theorem step_pushs (w : World) (hg : o.guard = none) (d : Option Tmp) (hd : o.dst = d) (s x : Operand) (hop : o.op = .call { callee := .builtin .append, args := #[s, x], argTypes := #[22, 22] })
    (B : Nat) (hB : B ≤ w.heap.size) (v vy : Value) (xs ys : List Int) (hs : a.eval s = v) (hx : a.eval x = vy) (hown : Own B w v xs) (hy : Byt w vy ys) (hn : xs.length ≤ 1099511627776) (hm : ys.length ≤ 1099511627776)
    (hK : ∀ v' w', Own B w' v' (xs ++ ys) → Below B w w' → K (a.put d v') w') : if Region.wanted o (yielded ops a.tmps) = true then Oper.wp Try.prog o a w K Q else E := by
  have hw : Region.wanted o (yielded ops a.tmps) = true := by simp [Region.wanted, hg]
  rw [if_pos hw]
  subst hd
  obtain ⟨i0, hi, hz0, hz1, hz2⟩ := info_parts info_u8
  obtain ⟨ao, cap, rfl, h1, h2, h3, h4, h5⟩ := hy
  cases ao with
  | none =>
    have hc := h4 rfl
    subst hc
    have : ys = [] := List.eq_nil_of_length_eq_zero (by omega)
    subst this
    have hrun := run_append_owned_none (P := Try.prog) (w := w) B 22 o.type 5 i0 1 Try.underlying22 hi v xs.length _ hown
    have hx' : a.eval x = .slice none 0 0 := hx
    unfold Oper.wp
    simp [execOp, hop, resolve, invoke, builtin, hs, hx', hrun, Result.andThen]
    refine hK v w ?_ (Below.refl _ _)
    rwa [List.append_nil]
  | some ad =>
    refine wp_append_own _ s x 22 hop B 5 i0 (.int .u8 0) 1 1 Try.underlying22 hi hz0 hz1 hz2 rfl (by decide) v xs.length _ hs hown ad ys.length cap (ys.map (Value.int .u8)) hx (by simp) ?_ ?_ (by simp only [maxLen]; omega) (by omega) hB fun v' w' h1 h2 _ => ?_
    · intro j u hj
      have hjl : j < ys.length := by have := (List.getElem?_eq_some_iff.1 hj).1; simpa using this
      obtain ⟨b, off, e, hc⟩ := h5 (by omega)
      cases e
      rw [Addr.add_mid, hc j hjl, ← hj]
      simp [gb, List.getD, hjl]
    · intro u hu
      simp only [List.mem_map] at hu
      obtain ⟨y, _, rfl⟩ := hu
      rfl
    · refine hK v' w' ?_ ?_
      · show w'.ownsRow B 5 1 v' (xs ++ ys).length ((xs ++ ys).map (Value.int .u8))
        simpa using h1
      · exact (Below.refl B w).grown h2 hB fun k hk => (World.ownsRow.lt hown k hk).1
end

set_option maxHeartbeats 1000000 in
theorem rmixed8_any (v : Value) (xs : List Int) (t : Nat) (w : World) (hv : Byt w v xs) (hl : xs.length = 8) (ht : t ≤ 1000000) :
    Calls Try.prog 25 #[v, .int .i64 (t : Int)] w fun e w' => ∃ v', e = .returned v' ∧ Own w.heap.size w' v' (xorl xs (b8 t)) ∧ Below w.heap.size w w' := by
  have HB : Hid (∀ w, Calls Try.prog 49 #[.int .u64 (t : Int), .int .i64 8] w fun e w' => ∃ v, e = .returned v ∧ Byt w' v (b8 t) ∧ Below w.heap.size w w') := fun w => by
    have := rbig_any (t : Int) 8 w (by omega)
    rw [show clamp 8 8 = 8 by unfold clamp; omega] at this
    exact this
  have HX : Hid (∀ w' u, Byt w' v xs → Byt w' u (b8 t) → Calls Try.prog 44 #[v, u] w' fun e w'' => ∃ v', e = .returned v' ∧ Own w'.heap.size w'' v' (xorl xs (b8 t)) ∧ Below w'.heap.size w' w'') := fun w' u h1 h2 => rxor_own v u xs (b8 t) w' h1 h2 (by rw [hl, b8_len]) (by omega)
  have HV : Hid (Byt w v xs) := hv
  have k1 : IntKind.u64.wrap (t : Int) = (t : Int) := by rw [IntKind.wrap_u64]; omega
  clear hv hl
  generalize xorl xs (b8 t) = zs at *
  generalize b8 t = ts at *
  go_enter Try.func25, Try.ntmps25
  go_wp2_with (first
    | (have q1 := s1; go_at_call 44; refine (HX.out _ _ (HV.out.below B1) Y1.out).mono ?_; rintro e w2 ⟨v2, rfl, o2, B2⟩; have O2 : Hid (Own w1.heap.size w2 v2 zs) := o2; clear o2)
    | (go_at_call 49; refine (HB.out _).mono ?_; rintro e w1 ⟨v1, rfl, y1, B1⟩; have s1 := B1.size; have Y1 : Hid (Byt w1 v1 ts) := y1; clear y1))
  go_ret
  exact ⟨_, rfl, own_mono O2.out s1, B1.trans (B2.mono s1)⟩
end Go.Proofs.Ytifepmdhbhdjpaa.wr

/- What the reference's Wrap of layer 10 answer. No claim of its own. -/
namespace Go.Proofs.Ytifepmdhbhdjpaa.wr
open Go.RowKit
set_option maxRecDepth 20000

set_option linter.unusedSimpArgs false in
set_option maxRecDepth 20000 in
set_option maxHeartbeats 4000000 in
theorem rwrap_any (kv bv tv : Value) (key b : List Int) (n : Nat) (w : World) (hk : Byt w kv key) (hkl : key.length = 32) (hb : Byt w bv b) (hbl : b.length = 8 * n) (hn : 1 ≤ n) (hn' : n ≤ 32) (ht : Byt w tv ptab) :
    Calls Try.prog 22 #[kv, bv, tv] w fun e w' => ∃ v', e = .returned v' ∧ Byt w' v' (wrapped key b n) ∧ Below w.heap.size w w' := by
  have hka := hk.all
  have fit : ∀ k, Fit (8 * n + 8) (ws key n (a6 ++ b) k) := fun k => ws_fit key hkl hka n (by omega) _ (a6_fit b n hbl hb.all) k
  have SF : Hid (∀ w, Calls Try.prog 26 #[.int .u8 166, .int .i64 8] w fun e w' => ∃ v, e = .returned v ∧ Own w.heap.size w' v a6 ∧ Below w.heap.size w w') := fun w => by
    have := rfill_own 166 8 w
    rw [show clamp 8 65536 = 8 by unfold clamp; omega] at this
    exact this
  have SK : Hid (∀ k, ∃ S0 S1 E A M X1 D : List Int, S0.length = 8 ∧ S1.length = 8 ∧ AllB (S0 ++ S1) ∧ E.length = 16 ∧ (ws key n (a6 ++ b) k).take 8 = S0 ∧ ((ws key n (a6 ++ b) k).take (ix n (k + 1) + 8)).drop (ix n (k + 1)) = S1 ∧ E.drop 8 = X1 ∧ ((ws key n (a6 ++ b) k).take (ix n (k + 1))).drop 8 = M ∧ (ws key n (a6 ++ b) k).drop (ix n (k + 1) + 8) = D ∧ A.length = 8 ∧ M.length ≤ 1000 ∧ X1.length = 8 ∧ D.length ≤ 1000 ∧ ws key n (a6 ++ b) (k + 1) = A ++ M ++ X1 ++ D ∧ AllB (ws key n (a6 ++ b) (k + 1)) ∧
      (∀ w' kv bv tv, Byt w' kv key → Byt w' bv (S0 ++ S1) → Byt w' tv ptab → Calls Try.prog 39 #[kv, bv, tv] w' fun e w'' => ∃ v', e = .returned v' ∧ Byt w'' v' E ∧ Below w'.heap.size w' w'') ∧
      (k < 6 * n → ∀ w' v, Byt w' v (E.take 8) → Calls Try.prog 25 #[v, .int .i64 ((k + 1 : Nat) : Int)] w' fun e w'' => ∃ v', e = .returned v' ∧ Own w'.heap.size w'' v' A ∧ Below w'.heap.size w' w'')) := fun k => by
    have hf := fit k
    have hbd := ix_bd n (k + 1) (by omega)
    have hin := in_blk _ _ _ hf hbd.1 hbd.2
    have hX := encr_blk key hkl hka _ hin
    have hh := half _ hX
    have hxb := xb _ (k + 1) hh.1.1 hh.1.2
    have hl := hf.1
    refine ⟨_, _, encr key (hd (ws key n (a6 ++ b) k) ++ pt (ws key n (a6 ++ b) k) (ix n (k + 1))), xorl ((encr key (hd (ws key n (a6 ++ b) k) ++ pt (ws key n (a6 ++ b) k) (ix n (k + 1)))).take 8) (b8 (k + 1)), _, _, _, hd_len _ (by omega), pt_len _ _ (by omega), hin.2, hX.1, rfl, rfl, rfl, rfl, rfl, hxb.1, ?_, hh.2.1, ?_, rfl, (fit (k + 1)).2, fun w' kv bv tv h1 h2 h3 => rencrypt_any kv bv tv key _ w' h1 hkl h2 hin.1 h3, fun hk w' v h => rmixed8_any v _ (k + 1) w' h hh.1.1 (by omega)⟩
    · rw [mid_len _ _ (by omega)]; omega
    · rw [List.length_drop]; omega
  have HW : Hid (wrapped key b n = ws key n (a6 ++ b) (6 * n)) := rfl
  have HR0 : Hid (ws key n (a6 ++ b) 0 = a6 ++ b) := rfl
  have HL : Hid (∀ k, (ws key n (a6 ++ b) k).length = 8 * n + 8) := fun k => (fit k).1
  have H0A : Hid (AllB (ws key n (a6 ++ b) 0)) := (fit 0).2
  have HK : Hid (Byt w kv key) := hk
  have HT : Hid (Byt w tv ptab) := ht
  have HV : Hid (Byt w bv b) := hb
  have HPB : Hid (∀ k, 8 ≤ ix n (k + 1) ∧ ix n (k + 1) + 8 ≤ 8 * n + 8) := fun k => ix_bd n (k + 1) (by omega)
  have HPM : Hid (∀ k : Nat, ∃ r : Nat, r < n ∧ (k : Int).tmod (n : Int) = (r : Int) ∧ ix n (k + 1) = 8 * r + 8) := fun k => ⟨k % n, Nat.mod_lt _ (by omega), by rw [Int.tmod_eq_emod_of_nonneg (by omega)]; rfl, by unfold ix; rw [Nat.add_sub_cancel]; omega⟩
  clear hk hka ht fit hkl
  obtain ⟨R, hR⟩ : ∃ R : Nat → List Int, R = ws key n (a6 ++ b) := ⟨_, rfl⟩
  obtain ⟨px, hpx⟩ : ∃ px : Nat → Nat, px = fun k => ix n (k + 1) := ⟨_, rfl⟩
  have ep : ∀ k, ix n (k + 1) = px k := fun k => by rw [hpx]
  simp only [ep] at SK HPB HPM
  rw [← hR] at HW HR0 HL SK H0A
  clear hR hpx ep
  generalize wrapped key b n = Z at *
  generalize ptab = tab at *
  obtain ⟨bo, bc, rfl, hb1, hb2, -, -, -⟩ := hb
  have HBL : Hid (b.length ≤ 1000) := by show _ ≤ _; omega
  rw [hbl] at hb1 HV ⊢
  clear hbl
  obtain ⟨m, hm⟩ : ∃ m, m = 8 * n := ⟨_, rfl⟩
  obtain ⟨L, hL⟩ : ∃ L, L = 8 * n + 8 := ⟨_, rfl⟩
  obtain ⟨T, hT⟩ : ∃ T, T = 6 * n := ⟨_, rfl⟩
  rw [← hm] at HV hb1 ⊢
  rw [← hL] at HL HPB
  rw [← hT] at HW SK
  have d1 : (m : Int).tdiv 8 = (n : Int) := by rw [Int.tdiv_eq_ediv_of_nonneg (by omega)]; omega
  have d2 : IntKind.i64.wrap (n : Int) = (n : Int) := by rw [IntKind.wrap_i64]; omega
  have k6 : IntKind.i64.wrap (6 * (n : Int)) = (T : Int) := by rw [IntKind.wrap_i64]; omega
  have n0 : ¬ ((n : Int) = 0) := by omega
  have L0 : 16 ≤ L ∧ L ≤ 264 := by omega
  have T0 : T ≤ 192 := by omega
  have HLN : Hid (L = 8 * n + 8 ∧ T = 6 * n ∧ 1 ≤ n ∧ n ≤ 32) := ⟨hL, hT, hn, hn'⟩
  clear hm hL hT
  go_enter Try.func22, Try.ntmps22
  go_wp2_with (first
    | (at_builtin; have q := s1; refine pushs_lawG _ rfl (.tmp 13) (.tmp 14) rfl w.heap.size s1 v1 _ a6 b rfl rfl O1.out (HV.out.below B1) (by rw [a6_len]; omega) (by have := HBL.out; omega) ?_; intro v2 w2 o2 B2; have Y2 : Hid (Byt w2 v2 (R 0)) := (by show Byt _ _ _; rw [HR0.out]; exact o2.byt (by rw [← HR0.out]; exact H0A.out)); clear o2)
    | (go_at_call 26; refine (SF.out _).mono ?_; rintro e w1 ⟨v1, rfl, o1, B1⟩; have O1 : Hid (Own w.heap.size w1 v1 a6) := o1; have s1 := B1.size; clear o1))
  have BW : Hid (Below w.heap.size w w2) := B1.trans B2
  clear B1 B2 s1 O1 HV SF
  go_loopw [9, 7] (fun i o wr => ∃ k : Nat, k ≤ T ∧ i = .int .i64 ((k + 1 : Nat) : Int) ∧ Byt wr o (R k) ∧ Below w.heap.size w wr) (fun i _ _ => T + 1 - (intOf i).toNat)
  case atStart => exact ⟨0, Nat.zero_le _, rfl, Y2.out, BW.out⟩
  case round =>
    obtain ⟨k, hk, rfl, hY, hB⟩ := hrel
    obtain ⟨wa, rfl⟩ : ∃ wx, wx = wr := ⟨_, rfl⟩
    have HY : Hid (Byt wa u7 (R k)) := hY
    have HB : Hid (Below w.heap.size w wa) := hB
    obtain ⟨j, hj⟩ : ∃ j, j = k + 1 := ⟨_, rfl⟩
    have HJ : Hid (j = k + 1) := hj
    rw [← hj]
    clear hY hB hj
    by_cases hlt : k < T
    · have k1 : (j : Int) ≤ (T : Int) := by have := HJ.out; omega
      have q3 : IntKind.i64.wrap ((j : Int) + 1) = (j : Int) + 1 := by rw [IntKind.wrap_i64]; have := HJ.out; omega
      have q4 : IntKind.i64.wrap ((j : Int) - 1) = (k : Int) := by rw [IntKind.wrap_i64]; have := HJ.out; omega
      obtain ⟨r, hr, hm, hp⟩ := HPM.out k
      obtain ⟨S0, S1, E, A, M, X1, D, l0, l1, aI, lE, e0, e1, eX, eM, eD, lA, lM, lX, lD, eR, aR, cE, cM⟩ := SK.out k
      have PB : Hid (8 ≤ px k ∧ px k + 8 ≤ L) := HPB.out k
      have LK : Hid ((R k).length = L) := HL.out k
      generalize px k = p at *
      have q5 : IntKind.i64.wrap (r : Int) = (r : Int) := by rw [IntKind.wrap_i64]; omega
      have q6 : IntKind.i64.wrap ((r : Int) + 1) = (r : Int) + 1 := by rw [IntKind.wrap_i64]; omega
      have q7 : IntKind.i64.wrap (8 * ((r : Int) + 1)) = (p : Int) := by rw [IntKind.wrap_i64]; omega
      have CE : Hid (∀ w' kv bv tv, Byt w' kv key → Byt w' bv (S0 ++ S1) → Byt w' tv tab → Calls Try.prog 39 #[kv, bv, tv] w' fun e w'' => ∃ v', e = .returned v' ∧ Byt w'' v' E ∧ Below w'.heap.size w' w'') := cE
      have CM : Hid (∀ w' v, Byt w' v (E.take 8) → Calls Try.prog 25 #[v, .int .i64 (j : Int)] w' fun e w'' => ∃ v', e = .returned v' ∧ Own w'.heap.size w'' v' A ∧ Below w'.heap.size w' w'') := by rw [HJ.out]; exact cM hlt
      have HE0 : Hid ((R k).take 8 = S0) := e0
      have HE1 : Hid (((R k).take (p + 8)).drop p = S1) := e1
      have HEX : Hid (E.drop 8 = X1) := eX
      have HEM : Hid (((R k).take p).drop 8 = M) := eM
      have HED : Hid ((R k).drop (p + 8) = D) := eD
      have HER : Hid (R (k + 1) = A ++ M ++ X1 ++ D) := eR
      have HAR : Hid (AllB (R (k + 1))) := aR
      have LS : Hid (S0.length = 8 ∧ S1.length = 8 ∧ E.length = 16 ∧ A.length = 8 ∧ M.length ≤ 1000 ∧ X1.length = 8 ∧ D.length ≤ 1000) := ⟨l0, l1, lE, lA, lM, lX, lD⟩
      have HAI : Hid (AllB (S0 ++ S1)) := aI
      clear e0 e1 eX eM eD eR aR l0 l1 lE lA lM lX lD aI cE cM hp hr
      have p1 := (PB.out).1
      have p2 := (PB.out).2
      have d4 : IntKind.i64.wrap ((p : Int) + 8) = (p : Int) + 8 := by rw [IntKind.wrap_i64]; omega
      go_wp2
      refine wp_region_any (by kernel_rfl) ?_
      change wpAny _ _ _ _ _ _ _ (World.drew _)
      obtain ⟨wd, hwd⟩ : ∃ x, x = World.drew wa := ⟨_, rfl⟩
      have YD : Hid (Byt wd u7 (R k)) := by rw [hwd]; exact HY.out.below (Below.refl _ _).drew
      have BD : Hid (Below w.heap.size w wd) := by rw [hwd]; exact HB.out.drew
      have KD : Hid (Byt wd kv key) := by rw [hwd]; exact (HK.out.below HB.out).below (Below.refl _ _).drew
      have TD : Hid (Byt wd tv tab) := by rw [hwd]; exact (HT.out.below HB.out).below (Below.refl _ _).drew
      rw [← hwd]
      clear hwd
      refine take_lawG 0 (some 31) (kv) rfl rfl (by kernel_rfl) (by kernel_rfl) (by kernel_rfl) (fun _ _ _ h => h) (Or.inl ⟨by rfl, fun w' => by rfl⟩) ?_
      simp only [Act.put, List.setIfInBounds_toArray, List.set_cons_zero, List.set_cons_succ]
      refine take_lawG 2 (some 33) (u7) rfl rfl (by kernel_rfl) (by kernel_rfl) (by kernel_rfl) (fun _ _ _ h => h) (Or.inl ⟨by rfl, fun w' => by rfl⟩) ?_
      simp only [Act.put, List.setIfInBounds_toArray, List.set_cons_zero, List.set_cons_succ]
      refine take_lawG 3 (some 34) (sl u7 0 8) rfl rfl (by kernel_rfl) (by kernel_rfl) (by kernel_rfl) (fun _ _ _ h => h) (y_to (by rfl) (.tmp 33) (.const (.int .i64 8)) rfl u7 (R k) wd YD.out 8 8 rfl rfl rfl (by have := LK.out; omega)) ?_
      simp only [Act.put, List.setIfInBounds_toArray, List.set_cons_zero, List.set_cons_succ]
      refine take_lawG 5 (some 36) (u7) rfl rfl (by kernel_rfl) (by kernel_rfl) (by kernel_rfl) (fun _ _ _ h => h) (Or.inl ⟨by rfl, fun w' => by rfl⟩) ?_
      simp only [Act.put, List.setIfInBounds_toArray, List.set_cons_zero, List.set_cons_succ]
      refine take_lawG 6 (some 37) (.int .i64 (p : Int)) rfl rfl (by kernel_rfl) (by kernel_rfl) (by kernel_rfl) (fun _ _ _ h => h) (Or.inl ⟨by rfl, fun w' => by rfl⟩) ?_
      simp only [Act.put, List.setIfInBounds_toArray, List.set_cons_zero, List.set_cons_succ]
      refine take_lawG 7 (some 38) (.int .i64 (p : Int)) rfl rfl (by kernel_rfl) (by kernel_rfl) (by kernel_rfl) (fun _ _ _ h => h) (Or.inl ⟨by rfl, fun w' => by rfl⟩) ?_
      simp only [Act.put, List.setIfInBounds_toArray, List.set_cons_zero, List.set_cons_succ]
      refine take_lawG 8 (some 39) (.int .i64 ((p : Int) + 8)) rfl rfl (by kernel_rfl) (by kernel_rfl) (by kernel_rfl) (fun _ _ _ h => h) (y_add (by rfl) (.tmp 38) (.const (.int .i64 8)) rfl (p : Int) 8 _ rfl rfl d4) ?_
      simp only [Act.put, List.setIfInBounds_toArray, List.set_cons_zero, List.set_cons_succ]
      refine take_lawG 9 (some 40) (sl u7 p (p + 8)) rfl rfl (by kernel_rfl) (by kernel_rfl) (by kernel_rfl) (fun _ _ _ h => h) (y_part (by rfl) (.tmp 36) (.tmp 37) (.tmp 39) rfl u7 (R k) wd YD.out (p : Int) ((p : Int) + 8) p (p + 8) rfl rfl rfl rfl (by omega) (by omega) (by have := LK.out; omega)) ?_
      simp only [Act.put, List.setIfInBounds_toArray, List.set_cons_zero, List.set_cons_succ]
      refine take_lawG 11 (some 42) (tv) rfl rfl (by kernel_rfl) (by kernel_rfl) (by kernel_rfl) (fun _ _ _ h => h) (Or.inl ⟨by rfl, fun w' => by rfl⟩) ?_
      simp only [Act.put, List.setIfInBounds_toArray, List.set_cons_zero, List.set_cons_succ]
      refine wpAny_ready (rs := [1]) (by kernel_rfl) (by simp) ?_
      refine AllReady.cons rfl (fun K hK => ?_) AllReady.nil
      refine step_nil _ rfl (some 32) rfl rfl fun v3 w3 o3 B3 => hK _ _ ?_
      simp only [Act.put, List.setIfInBounds_toArray, List.set_cons_zero, List.set_cons_succ]
      clear hK K
      have O3 : Hid (Own wd.heap.size w3 v3 []) := o3
      have Q3 : Hid (Below wd.heap.size wd w3) := B3
      have s3 := B3.size
      clear o3 B3
      refine wpAny_ready (rs := [4]) (by kernel_rfl) (by simp) ?_
      refine AllReady.cons rfl (fun K hK => ?_) AllReady.nil
      refine step_pushs _ rfl (some 35) rfl (.tmp 32) (.tmp 34) rfl wd.heap.size s3 v3 (sl u7 0 8) [] S0 rfl rfl O3.out (by rw [← HE0.out]; exact sl_to (YD.out.below Q3.out) 8 (by have := LK.out; omega)) (by simp) (by have := LS.out; omega) fun v4 w4 o4 B4 => hK _ _ ?_
      simp only [Act.put, List.setIfInBounds_toArray, List.set_cons_zero, List.set_cons_succ]
      clear hK K
      rw [List.nil_append] at o4
      have O4 : Hid (Own wd.heap.size w4 v4 S0) := o4
      have Q4 : Hid (Below wd.heap.size wd w4) := Q3.out.trans B4
      have s4 := Q4.out.size
      clear o4 B4 O3 Q3 s3
      refine wpAny_ready (rs := [10]) (by kernel_rfl) (by simp) ?_
      refine AllReady.cons rfl (fun K hK => ?_) AllReady.nil
      refine step_pushs _ rfl (some 41) rfl (.tmp 35) (.tmp 40) rfl wd.heap.size s4 v4 (sl u7 p (p + 8)) S0 S1 rfl rfl O4.out (by rw [← HE1.out]; exact sl_byt (YD.out.below Q4.out) p (p + 8) (by omega) (by have := LK.out; omega)) (by have := LS.out; omega) (by have := LS.out; omega) fun v5 w5 o5 B5 => hK _ _ ?_
      simp only [Act.put, List.setIfInBounds_toArray, List.set_cons_zero, List.set_cons_succ]
      clear hK K
      have O5 : Hid (Byt w5 v5 (S0 ++ S1)) := o5.byt HAI.out
      have Q5 : Hid (Below wd.heap.size wd w5) := Q4.out.trans B5
      clear o5 B5 O4 Q4 s4
      refine wpAny_ready (rs := [12]) (by kernel_rfl) (by simp) ?_
      refine AllReady.cons rfl (fun K hK => ?_) AllReady.nil
      refine step_callW _ (by rfl) (some 43) rfl 39 #[.tmp 31, .tmp 41, .tmp 42] #[22, 22, 22] rfl (fun q w' => by rfl) #[kv, v5, tv] (by simp only [List.map_toArray, List.map_cons, List.map_nil]; rfl) _ (CE.out _ _ _ _ (KD.out.below Q5.out) O5.out (TD.out.below Q5.out)) ?_
      rintro v6 w6 ⟨y6, B6⟩
      refine hK _ _ ?_
      simp only [Act.put, List.setIfInBounds_toArray, List.set_cons_zero, List.set_cons_succ]
      clear hK K
      have Y6 : Hid (Byt w6 v6 E) := y6
      have Q6 : Hid (Below wd.heap.size wd w6) := Q5.out.trans (B6.mono Q5.out.size)
      have YU6 : Hid (Byt w6 u7 (R k)) := YD.out.below Q6.out
      have BW6 : Hid (Below w.heap.size w w6) := BD.out.trans (Q6.out.mono BD.out.size)
      clear y6 B6 O5 Q5 Q6 YD BD KD TD
      refine wpAny_ready (rs := [13]) (by kernel_rfl) (by simp) ?_
      refine AllReady.cons rfl (fun K hK => ?_) AllReady.nil
      refine step_movG _ rfl (some 11) rfl (.tmp 43) rfl v6 rfl (hK _ _ ?_)
      simp only [Act.put, List.setIfInBounds_toArray, List.set_cons_zero, List.set_cons_succ]
      clear hK K
      refine wpAny_done (by kernel_rfl) ?_ _
      go_wp2
      refine wp_region_any (by kernel_rfl) ?_
      change wpAny _ _ _ _ _ _ _ (World.drew _)
      obtain ⟨we, hwd⟩ : ∃ x, x = World.drew w6 := ⟨_, rfl⟩
      have YD : Hid (Byt we u7 (R k)) := by rw [hwd]; exact YU6.out.below (Below.refl _ _).drew
      have XD : Hid (Byt we v6 E) := by rw [hwd]; exact Y6.out.below (Below.refl _ _).drew
      have BD : Hid (Below w.heap.size w we) := by rw [hwd]; exact BW6.out.drew
      rw [← hwd]
      clear hwd
      clear YU6 Y6 BW6
      refine take_lawG 0 (some 44) (v6) rfl rfl (by kernel_rfl) (by kernel_rfl) (by kernel_rfl) (fun _ _ _ h => h) (Or.inl ⟨by rfl, fun w' => by rfl⟩) ?_
      simp only [Act.put, List.setIfInBounds_toArray, List.set_cons_zero, List.set_cons_succ]
      refine take_lawG 1 (some 45) (sl v6 0 8) rfl rfl (by kernel_rfl) (by kernel_rfl) (by kernel_rfl) (fun _ _ _ h => h) (y_to (by rfl) (.tmp 44) (.const (.int .i64 8)) rfl v6 E we XD.out 8 8 rfl rfl rfl (by have := LS.out; omega)) ?_
      simp only [Act.put, List.setIfInBounds_toArray, List.set_cons_zero, List.set_cons_succ]
      refine take_lawG 2 (some 46) (.int .i64 (j : Int)) rfl rfl (by kernel_rfl) (by kernel_rfl) (by kernel_rfl) (fun _ _ _ h => h) (Or.inl ⟨by rfl, fun w' => by rfl⟩) ?_
      simp only [Act.put, List.setIfInBounds_toArray, List.set_cons_zero, List.set_cons_succ]
      refine take_lawG 4 (some 48) (u7) rfl rfl (by kernel_rfl) (by kernel_rfl) (by kernel_rfl) (fun _ _ _ h => h) (Or.inl ⟨by rfl, fun w' => by rfl⟩) ?_
      simp only [Act.put, List.setIfInBounds_toArray, List.set_cons_zero, List.set_cons_succ]
      refine take_lawG 5 (some 49) (.int .i64 (p : Int)) rfl rfl (by kernel_rfl) (by kernel_rfl) (by kernel_rfl) (fun _ _ _ h => h) (Or.inl ⟨by rfl, fun w' => by rfl⟩) ?_
      simp only [Act.put, List.setIfInBounds_toArray, List.set_cons_zero, List.set_cons_succ]
      refine take_lawG 6 (some 50) (sl u7 8 p) rfl rfl (by kernel_rfl) (by kernel_rfl) (by kernel_rfl) (fun _ _ _ h => h) (y_part (by rfl) (.tmp 48) (.const (.int .i64 8)) (.tmp 49) rfl u7 (R k) we YD.out 8 (p : Int) 8 p rfl rfl rfl rfl rfl (by omega) (by have := LK.out; omega)) ?_
      simp only [Act.put, List.setIfInBounds_toArray, List.set_cons_zero, List.set_cons_succ]
      refine wpAny_ready (rs := [3]) (by kernel_rfl) (by simp) ?_
      refine AllReady.cons rfl (fun K hK => ?_) AllReady.nil
      refine step_callW _ (by rfl) (some 47) rfl 25 #[.tmp 45, .tmp 46] #[22, 3] rfl (fun q w' => by rfl) #[sl v6 0 8, .int .i64 (j : Int)] (by simp only [List.map_toArray, List.map_cons, List.map_nil]; rfl) _ (CM.out _ _ (sl_to XD.out 8 (by have := LS.out; omega))) ?_
      rintro v7 w7 ⟨o7, B7⟩
      refine hK _ _ ?_
      simp only [Act.put, List.setIfInBounds_toArray, List.set_cons_zero, List.set_cons_succ]
      clear hK K
      have O7 : Hid (Own we.heap.size w7 v7 A) := o7
      have Q7 : Hid (Below we.heap.size we w7) := B7
      have s7 := B7.size
      clear o7 B7
      refine wpAny_ready (rs := [7]) (by kernel_rfl) (by simp) ?_
      refine AllReady.cons rfl (fun K hK => ?_) AllReady.nil
      refine step_pushs _ rfl (some 51) rfl (.tmp 47) (.tmp 50) rfl we.heap.size s7 v7 (sl u7 8 p) A M rfl rfl O7.out (by rw [← HEM.out]; exact sl_byt (YD.out.below Q7.out) 8 p (by omega) (by have := LK.out; omega)) (by have := LS.out; omega) (by have := LS.out; omega) fun v8 w8 o8 B8 => hK _ _ ?_
      simp only [Act.put, List.setIfInBounds_toArray, List.set_cons_zero, List.set_cons_succ]
      clear hK K
      have O8 : Hid (Own we.heap.size w8 v8 (A ++ M)) := o8
      have Q8 : Hid (Below we.heap.size we w8) := Q7.out.trans B8
      have s8 := Q8.out.size
      clear o8 B8 O7 Q7 s7
      refine wpAny_ready (rs := [8]) (by kernel_rfl) (by simp) ?_
      refine AllReady.cons rfl (fun K hK => ?_) AllReady.nil
      refine step_movG _ rfl (some 12) rfl (.tmp 51) rfl v8 rfl (hK _ _ ?_)
      simp only [Act.put, List.setIfInBounds_toArray, List.set_cons_zero, List.set_cons_succ]
      clear hK K
      refine wpAny_done (by kernel_rfl) ?_ _
      have r0 : True := trivial
      have r1 : True := trivial
      have r2 : True := trivial
      have r3 : True := trivial
      go_wp2_with (first
        | (have q := r0; refine cut_from _ rfl (.tmp 53) (.const (.int .i64 8)) rfl v6 E 8 8 rfl rfl rfl (by have := LS.out; omega) (XD.out.below Q8.out) ?_; intro v9 y9; rw [HEX.out] at y9; have Y9 : Hid (Byt w8 v9 X1) := y9; clear y9 r0 q)
        | (at_builtin; have q := r1; refine pushs_lawG _ rfl (.tmp 52) (.tmp 54) rfl we.heap.size s8 v8 v9 (A ++ M) X1 rfl rfl O8.out Y9.out (by have := LS.out; rw [List.length_append]; omega) (by have := LS.out; omega) ?_; intro v10 w10 o10 B10; have O10 : Hid (Own we.heap.size w10 v10 (A ++ M ++ X1)) := o10; have Q10 : Hid (Below we.heap.size we w10) := Q8.out.trans B10; have s10 := Q10.out.size; clear o10 B10 r1 q)
        | (have q := r2; refine cut_from _ rfl (.tmp 57) (.tmp 59) rfl u7 (R k) ((p : Int) + 8) (p + 8) rfl rfl rfl (by have := LK.out; omega) (YD.out.below Q10.out) ?_; intro v11 y11; rw [HED.out] at y11; have Y11 : Hid (Byt w10 v11 D) := y11; clear y11 r2 q)
        | (at_builtin; have q := r3; refine pushs_lawG _ rfl (.tmp 56) (.tmp 60) rfl we.heap.size s10 v10 v11 (A ++ M ++ X1) D rfl rfl O10.out Y11.out (by have := LS.out; rw [List.length_append, List.length_append]; omega) (by have := LS.out; omega) ?_; intro v12 w12 o12 B12; have O12 : Hid (Own we.heap.size w12 v12 (A ++ M ++ X1 ++ D)) := o12; have Q12 : Hid (Below we.heap.size we w12) := Q10.out.trans B12; clear o12 B12 r3 q))
      go_roundw
      case rel => exact ⟨k + 1, by omega, by rw [HJ.out]; go_num, by rw [HER.out]; exact O12.out.byt (by rw [← HER.out]; exact HAR.out), BD.out.trans (Q12.out.mono BD.out.size)⟩
      case measure => have := HJ.out; simp [intOf]; omega
    · have hkn : k = T := by omega
      subst hkn
      have k1 : ¬ ((j : Int) ≤ (k : Int)) := by have := HJ.out; omega
      go_wp2
      go_ret
      exact ⟨_, rfl, by rw [HW.out]; exact HY.out, HB.out⟩
end Go.Proofs.Ytifepmdhbhdjpaa.wr

/- What the reference's Make answers. No claim of its own. -/
namespace Go.Proofs.Ytifepmdhbhdjpaa.so
open Go.RowKit Go.Proofs.Ytifepmdhbhdjpaa.fa Go.Proofs.Ytifepmdhbhdjpaa.he Go.Proofs.Ytifepmdhbhdjpaa.wr
set_option maxRecDepth 20000

set_option maxHeartbeats 4000000 in
theorem rmake_any (kv bv tv : Value) (ks bs : List Int) (n k n' c l e t : Int) (w : World) (hk : Byt w kv ks) (hq : ks.length = 32) (hb : Byt w bv bs) (hl : bs.length = 96) (ht : Byt w tv ptab) :
    Calls Try.prog 11 #[kv, .int .i64 n, .agg (he.hv k n' c l e t).toArray, bv, tv] w fun x w' => ∃ zo zc, x = .returned (.agg (sv true n e t (.slice zo 104 zc)).toArray) ∧ Byt w' (.slice zo 104 zc) (wrapped ks bs 12) ∧ Below w.heap.size w w' := by
  have SW : Hid (∀ w0, Below w.heap.size w w0 → Calls Try.prog 22 #[kv, bv, tv] w0 fun x w' => ∃ zo zc, x = .returned (.slice zo 104 zc) ∧ Byt w' (.slice zo 104 zc) (wrapped ks bs 12) ∧ Below w0.heap.size w0 w') := fun w0 q => (rwrap_any kv bv tv ks bs 12 w0 (hk.below q) hq (hb.below q) hl (by omega) (by omega) (ht.below q)).mono fun _ _ ⟨v, h1, h2, h3⟩ => by
    obtain ⟨wo, wc, rfl⟩ := byt_form h2 (wrapped_fit ks hq hk.all bs 12 (by omega) hl hb.all).1
    exact ⟨wo, wc, h1, h2, h3⟩
  generalize wrapped ks bs 12 = X at SW ⊢
  clear hk hb hl hq ht
  have t0 : (0 : Nat) = 0 := rfl
  go_enter Try.func11, Try.ntmps11
  go_wp2_with (first
    | (have q1 := t1; (with_reducible refine at_alloc ?_); refine new_lawN _ (sv false 0 0 0 (.slice none 0 0)) zero_rslot (sv_nob _ _ _ _ _ _ _) ?_; intro w2 X9 N9 B9; have LT_HB0_HR : Hid (w.heap.size < w1.heap.size) := range_lt HB0.out.1 (Nat.succ_pos _); have LE_HR : Hid (w.heap.size ≤ w1.heap.size) := BB.out.size; have HB0 : Hid (Vr w2 w.heap.size (he.hv k n' c l e t)) := HB0.out.below B9 (range_lt HB0.out.1 (Nat.succ_pos _)); have HR : Hid (Vr w2 w1.heap.size (sv false 0 0 0 (.slice none 0 0))) := X9; have NB_HR : Hid (NoB w2 w1.heap.size) := N9; have BB : Hid (Below w.heap.size w w2) := BB.out.trans (B9.mono BB.out.size); clear hb0_0 hb0_1 hb0_2 hb0_3 hb0_4 hb0_5; have hb0_0 := HB0.out.cell 0 _ rfl; have hb0_1 := HB0.out.cell 1 _ rfl; have hb0_2 := HB0.out.cell 2 _ rfl; have hb0_3 := HB0.out.cell 3 _ rfl; have hb0_4 := HB0.out.cell 4 _ rfl; have hb0_5 := HB0.out.cell 5 _ rfl; clear X9 N9 B9; clear t1; have t2 : (1 : Nat) = 1 := rfl)
    | (have q0 := t0; refine box_lawC _ (he.hv k n' c l e t) rfl ?_; intro w1 X9 B9 l9; have HB0 : Hid (Vr w1 w.heap.size (he.hv k n' c l e t)) := X9; have BB : Hid (Below w.heap.size w w1) := B9; have hb0_0 := HB0.out.cell 0 _ rfl; have hb0_1 := HB0.out.cell 1 _ rfl; have hb0_2 := HB0.out.cell 2 _ rfl; have hb0_3 := HB0.out.cell 3 _ rfl; have hb0_4 := HB0.out.cell 4 _ rfl; have hb0_5 := HB0.out.cell 5 _ rfl; clear X9 B9 l9; clear t0; have t1 : (1 : Nat) = 1 := rfl))
  clear hb0_0 hb0_1 hb0_2 hb0_3 hb0_4 hb0_5
  have LRR : Hid (w1.heap.size < w2.heap.size) := range_lt HR.out.1 (Nat.succ_pos _)
  have HR : Hid (Vr w2.drew w1.heap.size (sv false 0 0 0 (.slice none 0 0))) := HR.out.drewN 1
  have NB_HR : Hid (NoB w2.drew w1.heap.size) := NB_HR.out.heap rfl
  have LRR : Hid (w1.heap.size < w2.drew.heap.size) := LRR.out
  refine wp_region_held_drew (S := fun w' => Below w.heap.size w w' ∧ w'.rangeAt w.heap.size 0 (he.hv k n' c l e t)) (by kernel_rfl) ⟨BB.out.drew, HB0.out.1⟩ (fun hS => ?_)
  obtain ⟨x1, hx0⟩ : ∃ x, x = w2.drew := ⟨_, rfl⟩
  rw [← hx0] at hS HR NB_HR LRR ⊢
  clear hx0
  refine take_lawH 0 (some 11) (.int .i64 n) rfl rfl (by kernel_rfl) (by kernel_rfl) (by kernel_rfl) (fun _ _ _ h => h) (Or.inl ⟨by rfl, fun w' hw' => by rfl⟩) hS ?_
  simp only [Act.put, List.setIfInBounds_toArray, List.set_cons_zero, List.set_cons_succ]
  refine take_lawH 1 (some 12) (.pointer (some ⟨w.heap.size, 4, none⟩)) rfl rfl (by kernel_rfl) (by kernel_rfl) (by kernel_rfl) (fun _ _ _ h => h) (Or.inl ⟨by rfl, fun w' hw' => by go_simp⟩) hS ?_
  simp only [Act.put, List.setIfInBounds_toArray, List.set_cons_zero, List.set_cons_succ]
  refine take_lawH 2 (some 13) (.int .u64 e) rfl rfl (by kernel_rfl) (by kernel_rfl) (by kernel_rfl) (fun _ _ _ h => h) (Or.inl ⟨by rfl, fun w' hw' => by exact exec_loadN 25 (.tmp 12) rfl _ rfl _ _ (load_one one_u64 (by have := hw'.2 4 _ rfl; rwa [Nat.zero_add] at this))⟩) hS ?_
  simp only [Act.put, List.setIfInBounds_toArray, List.set_cons_zero, List.set_cons_succ]
  refine take_lawH 3 (some 14) (.pointer (some ⟨w.heap.size, 5, none⟩)) rfl rfl (by kernel_rfl) (by kernel_rfl) (by kernel_rfl) (fun _ _ _ h => h) (Or.inl ⟨by rfl, fun w' hw' => by go_simp⟩) hS ?_
  simp only [Act.put, List.setIfInBounds_toArray, List.set_cons_zero, List.set_cons_succ]
  refine take_lawH 4 (some 15) (.int .u64 t) rfl rfl (by kernel_rfl) (by kernel_rfl) (by kernel_rfl) (fun _ _ _ h => h) (Or.inl ⟨by rfl, fun w' hw' => by exact exec_loadN 25 (.tmp 14) rfl _ rfl _ _ (load_one one_u64 (by have := hw'.2 5 _ rfl; rwa [Nat.zero_add] at this))⟩) hS ?_
  simp only [Act.put, List.setIfInBounds_toArray, List.set_cons_zero, List.set_cons_succ]
  refine take_lawH 5 (some 16) (kv) rfl rfl (by kernel_rfl) (by kernel_rfl) (by kernel_rfl) (fun _ _ _ h => h) (Or.inl ⟨by rfl, fun w' hw' => by rfl⟩) hS ?_
  simp only [Act.put, List.setIfInBounds_toArray, List.set_cons_zero, List.set_cons_succ]
  refine take_lawH 6 (some 17) (bv) rfl rfl (by kernel_rfl) (by kernel_rfl) (by kernel_rfl) (fun _ _ _ h => h) (Or.inl ⟨by rfl, fun w' hw' => by rfl⟩) hS ?_
  simp only [Act.put, List.setIfInBounds_toArray, List.set_cons_zero, List.set_cons_succ]
  refine take_lawH 7 (some 18) (tv) rfl rfl (by kernel_rfl) (by kernel_rfl) (by kernel_rfl) (fun _ _ _ h => h) (Or.inl ⟨by rfl, fun w' hw' => by rfl⟩) hS ?_
  simp only [Act.put, List.setIfInBounds_toArray, List.set_cons_zero, List.set_cons_succ]
  refine wpAnyH_ready (rs := [8]) (by kernel_rfl) (by simp) ?_
  refine AllReadyH.cons rfl (fun K hK => ?_) AllReadyH.nil
  refine he.step_callW _ (by rfl) (some 19) rfl 22 #[.tmp 16, .tmp 17, .tmp 18] #[22, 22, 22] rfl (fun q w' => by rfl) #[kv, bv, tv] (by simp only [List.map_toArray, List.map_cons, List.map_nil]; rfl) (fun u w' => (∃ zo zc, u = .slice zo 104 zc ∧ Byt w' (.slice zo 104 zc) X) ∧ Below x1.heap.size x1 w') ?_ ?_
  · exact (SW.out x1 hS.1).mono fun e w' ⟨zo, zc, h1, h2, h3⟩ => ⟨_, h1, ⟨zo, zc, rfl, h2⟩, h3⟩
  rintro _ x2 ⟨⟨zo, zc, rfl, y1⟩, hb⟩
  have YZ : Hid (Byt x2 (.slice zo 104 zc) X) := y1
  have HR : Hid (Vr x2 w1.heap.size (sv false 0 0 0 (.slice none 0 0))) := HR.out.below hb (range_lt HR.out.1 (Nat.succ_pos _))
  have NB_HR : Hid (NoB x2 w1.heap.size) := NB_HR.out.heap (hb.block _ LRR.out)
  have LRR : Hid (w1.heap.size < x2.heap.size) := Nat.lt_of_lt_of_le LRR.out hb.size
  have hS : Below w.heap.size w x2 ∧ x2.rangeAt w.heap.size 0 (he.hv k n' c l e t) := ⟨hS.1.trans (hb.mono hS.1.size), range_heap hS.2 (hb.block _ (range_lt hS.2 (Nat.succ_pos _)))⟩
  clear y1 hb
  refine hK.out _ _ hS (fun _ => ?_)
  simp only [Act.put, List.setIfInBounds_toArray, List.set_cons_zero, List.set_cons_succ]
  clear hK K
  refine take_lawH 9 (some 20) (.agg (sv true n e t (.slice zo 104 zc)).toArray) rfl rfl (by kernel_rfl) (by kernel_rfl) (by kernel_rfl) (fun _ _ _ h => h) (Or.inl ⟨by rfl, fun w' hw' => by exact exec_build 34 _ rfl _ _ (by kernel_rfl)⟩) hS ?_
  simp only [Act.put, List.setIfInBounds_toArray, List.set_cons_zero, List.set_cons_succ]
  refine wpAnyH_ready (rs := [10]) (by kernel_rfl) (by simp) ?_
  refine AllReadyH.cons rfl (fun K hK => ?_) AllReadyH.nil
  refine step_storeK _ rfl none rfl (.tmp 10) (.tmp 20) 34 rfl w1.heap.size (sv false 0 0 0 (.slice none 0 0)) (sv true n e t (.slice zo 104 zc)) rfl rfl HR.out rfl rowy_rslot.2 (sv_one _ _ _ _ rfl) ?_
  intro x3 v9 B9 E9
  have HQ : Hid (Vr x3 w1.heap.size (sv true n e t (.slice zo 104 zc))) := v9
  have YZ : Hid (Byt x3 (.slice zo 104 zc) X) := byt_nob YZ.out NB_HR.out E9
  have hS : Below w.heap.size w x3 ∧ x3.rangeAt w.heap.size 0 (he.hv k n' c l e t) := ⟨hS.1.trans (B9.mono LE_HR.out), range_heap hS.2 (E9 _ (Nat.ne_of_lt LT_HB0_HR.out))⟩
  clear v9 B9 E9
  refine hK.out _ _ hS (fun _ => ?_)
  simp only [Act.put]
  clear hK K
  refine wpAnyH_done (by kernel_rfl) ?_ _
  have BZ : Hid (Below w.heap.size w _) := hS.1
  clear hS
  go_wp2
  exact bodyPost_ret (v := .agg (sv true n e t (.slice zo 104 zc)).toArray) (results_c rfl _ _ w1.heap.size _ rowy_rslot rfl HQ.out.1) rfl ⟨_, _, rfl, YZ.out, BZ.out⟩
end Go.Proofs.Ytifepmdhbhdjpaa.so

