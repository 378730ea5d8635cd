/- Behind any changes of a ledger of up to nine blocks: the block that is picked, the victim of any namespace, how many are held, and bad, the spread and whether one leaks are the document's; what is picked is free, a victim is held. No condition. -/
import Derived.Test.YtnmofigidlmcaaaEOpn
import Derived.Test.YtnmofigidlmcaaaETel
namespace Go.Proofs.Ytnmofigidlmcaaa.ledgerTells
open Go.ChangeShapes Go.WideShapes Go.ChangeAt Go.RowKit
set_option maxRecDepth 20000

open Go.Proofs.Ytnmofigidlmcaaa.le Go.Proofs.Ytnmofigidlmcaaa.he

def Fin (g : Nat → Bk) (M : Nat) (xa xb zp zv z1 z2 zh zb : Int) (tl : Bool) : Prop := zp = oi (fm (Pf g) (Ae g) M) ∧ zv = oi (fm (Vf g xa xb) (Al g) M) ∧ z1 = oi (fm (Gd g) (Ae g) M) ∧ z2 = oi (fm (Gd g) (Ag g) M) ∧ zh = cn (Hf g xa) M ∧ zb = cn (Bf g) M ∧ tl = decide (0 < cn (Lf g xa) M)
theorem call_in {B : Nat} {w0 : World} {f : FuncId} {vs : Array Value} {u : Value} {w' : World} (hw : Below B w0 w') (hB : B ≤ w'.heap.size) (h : Calls Try.prog f vs w' fun e w'' => e = .returned u ∧ Below w'.heap.size w' w'') : Calls Try.prog f vs w' fun e w'' => e = .returned u ∧ Below B w0 w'' :=
  h.mono fun _ _ z => ⟨z.1, hw.trans (z.2.mono hB)⟩
theorem call_dr {f : FuncId} {vs : Array Value} {u : Value} {w' : World} (h : Calls Try.prog f vs w' fun e w'' => e = .returned u ∧ ∃ m, w'' = w'.drewN m) : Calls Try.prog f vs w' fun e w'' => e = .returned u ∧ Below w'.heap.size w' w'' :=
  h.mono fun _ _ ⟨z, m, q⟩ => ⟨z, by rw [q]; exact below_dr (Below.refl _ _) m⟩
theorem call_eq {f : FuncId} {vs : Array Value} {u : Value} {w' : World} (h : Calls Try.prog f vs w' fun e w'' => e = .returned u ∧ w'' = w') : Calls Try.prog f vs w' fun e w'' => e = .returned u ∧ Below w'.heap.size w' w'' :=
  h.mono fun _ _ ⟨z, q⟩ => ⟨z, by rw [q]; exact Below.refl _ _⟩

set_option maxHeartbeats 16000000 in
theorem walk (n0 : Int) (v : Value) (m : Nat) (q : Nat → Int × Int × Int) (xa xb : Int) (w : World) (hn : 0 ≤ n0 ∧ n0 ≤ 255) (hq : Sts w v m q) : Calls Try.prog 4 #[.int .u8 n0, v, .agg #[.int .i64 xa, .int .i64 xb]] w fun e w' => e = .returned (.bool true) ∧ Below w.heap.size w w' := by
  obtain ⟨M, hM⟩ : ∃ M : Nat, n0.tmod 10 = (M : Int) := ⟨(n0.tmod 10).toNat, by rw [Int.tmod_eq_emod_of_nonneg hn.1]; omega⟩
  have hM9 : M ≤ 9 := by rw [Int.tmod_eq_emod_of_nonneg hn.1] at hM; omega
  have e1 : IntKind.u8.wrap (M : Int) = (M : Int) := by rw [IntKind.wrap_u8]; omega
  have e2 : IntKind.i64.wrap (M : Int) = (M : Int) := by rw [IntKind.wrap_i64]; omega
  have hn1 := hn.1
  have hn2 := hn.2
  clear hn
  obtain ⟨ao0, cap0, rfl, hm, hqb, hqc⟩ := hq
  have HQ : Hid (0 < m → ∃ b off, ao0 = some ⟨b, off, none⟩ ∧ ∀ t, t < m → w.rangeAt b (off + t * 3) (stl (q t).1 (q t).2.1 (q t).2.2)) := hqc
  have HW : Hid (∀ t, t < m → Wd (q t).1 ∧ Wd (q t).2.1 ∧ Wd (q t).2.2) := hqb
  have N1 : Hid (∀ w, Calls Try.prog 6 #[.int .i64 (M : Int)] w fun e w' => ∃ c d, e = .returned (.tuple #[pt c, .int .i64 0]) ∧ Led w' c d M (fun _ => bn) ∧ w.heap.size ≤ c ∧ w.heap.size ≤ d ∧ d < w'.heap.size ∧ Below w.heap.size w w') := fun w => new_yes M w (by omega)
  have N2 : Hid (∀ w, Calls Try.prog 8 #[.int .i64 (M : Int)] w fun e w' => ∃ v r, e = .returned v ∧ Rr r w' v M (fun _ => bn) ∧ w.heap.size ≤ r ∧ (0 < M → r < w'.heap.size) ∧ Below w.heap.size w w') := fun w => rnew_any M w (by omega)
  clear hqb hqc
  have t0 : (0 : Nat) = 0 := rfl
  go_enter Try.func4, Try.ntmps4
  go_wp2_with (first
    | (have qq := t2; go_at_call 8; refine (N2.out w2).mono ?_; rintro e9 w3 ⟨rv, r, rfl, rr, r1, r2, B3⟩; have HT : Hid (Two w1 c d r rv M 0 (fun _ => bn) (fun _ => bn) w3) := ⟨L2.out.below B3, rr, C2.out.trans (B3.mono C2.out.size), fun j _ => ⟨by decide, by decide, by decide, by decide, by decide, by decide⟩, HD.out.1, Nat.le_trans C2.out.size r1, fun hp => ⟨by have := L2.out.lt; omega, by have := HD.out.2; omega⟩⟩; clear rr r1 r2 B3 t2; have t3 : (0 : Nat) = 0 := rfl)
    | (have qq := t1; go_at_call 6; refine (N1.out w1).mono ?_; rintro e9 w2 ⟨c, d, rfl, l2, h1, h2, h3, B2⟩; have L2 : Hid (Led w2 c d M (fun _ => bn)) := l2; have HD : Hid (w1.heap.size ≤ d ∧ d < w2.heap.size) := ⟨h2, h3⟩; have C2 : Hid (Below w1.heap.size w1 w2) := B2; clear l2 h1 h2 h3 B2 t1; have t2 : (0 : Nat) = 0 := rfl)
    | (have qq := t0; refine box_lawC _ (i2 xa xb) rfl ?_; intro w1 X1 B1 l1; have V1 : Hid (Vr w1 w.heap.size (i2 xa xb)) := X1; have C1 : Hid (Below w.heap.size w w1) := B1; clear X1 B1 t0; have t1 : (0 : Nat) = 0 := rfl))
  go_loopw [11] (fun i wr => ∃ (k : Nat) (g : Nat → Bk), k ≤ 60 ∧ k ≤ m ∧ i = .int .i64 k ∧ Hid (Two w1 c d r rv M k g g wr)) (fun i _ => m - (intOf i).toNat)
  case atStart => exact ⟨0, fun _ => bn, by omega, Nat.zero_le _, rfl, HT⟩
  case round =>
    clear HT N1 N2 L2 HD C2
    obtain ⟨k, g, hk60, hkm, rfl, HT⟩ := hrel
    have k0 : (0 : Int) ≤ (k : Int) := by omega
    by_cases hlt : k < m ∧ k < 60
    · obtain ⟨hl1, hl2⟩ := hlt
      have k1 : (k : Int) < (m : Int) := by omega
      have k2 : (k : Int) < 60 := by omega
      have k3 : IntKind.i64.wrap ((k : Int) + 1) = (k : Int) + 1 := by rw [IntKind.wrap_i64]; omega
      obtain ⟨sb, off, rfl, hst⟩ := HQ.out (by omega)
      have HS0 : Hid (w.rangeAt sb (off + k * 3) (stl (q k).1 (q k).2.1 (q k).2.2)) := hst k hl1
      obtain ⟨wd1, wd2, wd3⟩ := HW.out k hl1
      have HB0 : Hid (-9223372036854775808 ≤ (q k).2.2) := wd3.1
      clear hst wd1 wd2 wd3
      generalize (q k).1 = kd at *
      generalize (q k).2.1 = b at *
      generalize (q k).2.2 = s at *
      have HSB : Hid (sb < w.heap.size) := range_lt HS0.out (Nat.succ_pos _)
      have HS : Hid (∀ w', Below w1.heap.size w1 w' → w'.rangeAt sb (off + k * 3) (stl kd b s)) := fun w' hb => by
        have h1 := range_heap HS0.out (C1.out.block sb HSB.out)
        exact range_heap h1 (hb.block sb (Nat.lt_trans HSB.out l1))
      have s0 := three (HS.out wr HT.out.low)
      by_cases hr : 1 ≤ kd ∧ kd ≤ 7 ∧ (kd = 7 → s ≤ 1000000)
      · obtain ⟨z, g2, hp1, hp2⟩ := pair_any w1 c d r M k rv g kd b s wr HT.out hl2 hr.1 hr.2.1 HB0.out hr.2.2
        have R1 : Hid (∀ w, Calls Try.prog 10 #[stp kd b s] w fun e w' => e = .returned (.bool true) ∧ Below w.heap.size w w') := fun w => right_any kd b s w true (decide_eq_true hr).symm
        have R2 : Hid (∀ w', Two w1 c d r rv M k g g w' → Calls Try.prog 11 #[pt c, stp kd b s] w' fun e w'' => ∃ z g2, e = .returned (.int .i64 z) ∧ Two w1 c d r rv M (k + 1) g2 g w'' ∧ ∀ w', Two w1 c d r rv M (k + 1) g2 g w' → Calls Try.prog 12 #[rv, stp kd b s] w' fun e w'' => e = .returned (.int .i64 z) ∧ Two w1 c d r rv M (k + 1) g2 g2 w'') := fun w' hw' => by
          obtain ⟨z, g2, hp1, hp2⟩ := pair_any w1 c d r M k rv g kd b s w' hw' hl2 hr.1 hr.2.1 HB0.out hr.2.2
          exact hp1.mono fun _ _ h => ⟨z, g2, h.1, h.2, hp2⟩
        clear hp1 hp2 hr z g2
        have t0 : (0 : Nat) = 0 := rfl
        go_wp2_with (first
          | (have qq := t2; go_at_call 12; refine (R3.out w5 HT.out).mono ?_; rintro e9 w6 ⟨rfl, ht⟩; have HT : Hid (Two w1 c d r rv M (k + 1) g2 g2 w6) := ht; clear ht t2)
          | (have qq := t1; go_at_call 11; refine (R2.out w4 HT.out).mono ?_; rintro e9 w5 ⟨z, g2, rfl, ht, h3⟩; have HT : Hid (Two w1 c d r rv M (k + 1) g2 g w5) := ht; have R3 : Hid (∀ w', Two w1 c d r rv M (k + 1) g2 g w' → Calls Try.prog 12 #[rv, stp kd b s] w' fun e w'' => e = .returned (.int .i64 z) ∧ Two w1 c d r rv M (k + 1) g2 g2 w'') := h3; clear s0; have s0 := three (HS.out w5 HT.out.low); clear ht h3 t1; have t2 : (0 : Nat) = 0 := rfl)
          | (have qq := t0; go_at_call 10; refine (R1.out wr).mono ?_; rintro e9 w4 ⟨rfl, B4⟩; have HT : Hid (Two w1 c d r rv M k g g w4) := HT.out.below B4; clear s0; have s0 := three (HS.out w4 HT.out.low); clear B4 t0; have t1 : (0 : Nat) = 0 := rfl))
        go_roundw
        case rel => exact ⟨k + 1, g2, by omega, by omega, by go_num, HT⟩
        case measure => simp [intOf]; omega
      · have R1 : Hid (∀ w, Calls Try.prog 10 #[stp kd b s] w fun e w' => e = .returned (.bool false) ∧ Below w.heap.size w w') := fun w => right_any kd b s w false (decide_eq_false hr).symm
        clear hr
        have t0 : (0 : Nat) = 0 := rfl
        go_wp2_with (have qq := t0; go_at_call 10; refine (R1.out wr).mono ?_; rintro e9 w4 ⟨rfl, B4⟩; have HT : Hid (Two w1 c d r rv M k g g w4) := HT.out.below B4; clear B4 t0)
        go_roundw
        case rel => exact ⟨k + 1, g, by omega, by omega, by go_num, ⟨HT.out.led, HT.out.row, HT.out.low, fun j hj => sk_more (HT.out.sm j hj), HT.out.ap⟩⟩
        case measure => simp [intOf]; omega
    · have hx : ¬ (k : Int) < (m : Int) ∨ ((k : Int) < (m : Int) ∧ ¬ (k : Int) < 60) := by omega
      have HM : Hid (∀ j, j < M → Sm (g j)) := fun j hj => sk_sm (HT.out.sm j hj) hk60
      have FD : Hid (Fin g M xa xb (oi (fm (Pf g) (Ae g) M)) (oi (fm (Vf g xa xb) (Al g) M)) (oi (fm (Gd g) (Ae g) M)) (oi (fm (Gd g) (Ag g) M)) (cn (Hf g xa) M) (cn (Bf g) M) (decide (0 < cn (Lf g xa) M))) := ⟨rfl, rfl, rfl, rfl, rfl, rfl, rfl⟩
      have L0 : Hid (∀ w', Two w1 c d r rv M k g g w' → Lq w' (pt c) M g) := fun w' h => .inr ⟨c, d, rfl, h.led⟩
      have M64 : Hid (M ≤ 64) := Nat.le_trans hM9 (by omega)
      have K1 : Hid (∀ w', Two w1 c d r rv M k g g w' → Calls Try.prog 18 #[pt c] w' fun e w'' => e = .returned (.int .i64 (oi (fm (Pf g) (Ae g) M))) ∧ Below w'.heap.size w' w'') := fun w' h => pick_any _ M g w' (L0.out w' h) M64.out
      have K2 : Hid (∀ w', Two w1 c d r rv M k g g w' → Calls Try.prog 19 #[pt c, .int .i64 xa, .int .i64 xb] w' fun e w'' => e = .returned (.int .i64 (oi (fm (Vf g xa xb) (Al g) M))) ∧ Below w'.heap.size w' w'') := fun w' h => victim_any _ M g w' xa xb (L0.out w' h) M64.out
      have K3 : Hid (∀ w', Two w1 c d r rv M k g g w' → Calls Try.prog 20 #[pt c] w' fun e w'' => e = .returned (.tuple #[.int .i64 (oi (fm (Gd g) (Ae g) M)), .int .i64 (oi (fm (Gd g) (Ag g) M))]) ∧ Below w'.heap.size w' w'') := fun w' h => spread_any _ M g w' (L0.out w' h) M64.out
      have K4 : Hid (∀ w', Two w1 c d r rv M k g g w' → Calls Try.prog 21 #[rv] w' fun e w'' => e = .returned (.agg (i2 (oi (fm (Gd g) (Ae g) M)) (oi (fm (Gd g) (Ag g) M))).toArray) ∧ Below w'.heap.size w' w'') := fun w' h => rspread_any r rv M g w' h.row M64.out
      have K5 : Hid (∀ w', Two w1 c d r rv M k g g w' → Calls Try.prog 22 #[rv] w' fun e w'' => e = .returned (.int .i64 (oi (fm (Pf g) (Ae g) M))) ∧ Below w'.heap.size w' w'') := fun w' h => call_dr (rpick_any r rv M g w' h.row M64.out)
      have K6 : Hid (∀ w', Two w1 c d r rv M k g g w' → Calls Try.prog 23 #[rv, .int .i64 xa, .int .i64 xb] w' fun e w'' => e = .returned (.int .i64 (oi (fm (Vf g xa xb) (Al g) M))) ∧ Below w'.heap.size w' w'') := fun w' h => call_dr (rvictim_any r rv M g xa xb w' h.row M64.out)
      have K7 : Hid (∀ w', Two w1 c d r rv M k g g w' → Calls Try.prog 24 #[pt c, .int .i64 xa] w' fun e w'' => e = .returned (.int .i64 (cn (Hf g xa) M)) ∧ Below w'.heap.size w' w'') := fun w' h => held_any _ M g w' xa (L0.out w' h) M64.out
      have K8 : Hid (∀ w', Two w1 c d r rv M k g g w' → Calls Try.prog 25 #[rv, .int .i64 xa] w' fun e w'' => e = .returned (.int .i64 (cn (Hf g xa) M)) ∧ Below w'.heap.size w' w'') := fun w' h => call_eq (rheld_any r rv M g xa w' h.row M64.out)
      have K9 : Hid (∀ w', Two w1 c d r rv M k g g w' → Calls Try.prog 26 #[pt c] w' fun e w'' => e = .returned (.int .i64 (cn (Bf g) M)) ∧ Below w'.heap.size w' w'') := fun w' h => bads_any _ M g w' (L0.out w' h) M64.out
      have KA : Hid (∀ w', Two w1 c d r rv M k g g w' → Calls Try.prog 27 #[rv] w' fun e w'' => e = .returned (.int .i64 (cn (Bf g) M)) ∧ Below w'.heap.size w' w'') := fun w' h => call_eq (rbads_any r rv M g w' h.row M64.out)
      have KB : Hid (∀ w', Two w1 c d r rv M k g g w' → Calls Try.prog 28 #[pt c, .int .i64 xa] w' fun e w'' => e = .returned (.bool (decide (0 < cn (Lf g xa) M))) ∧ Below w'.heap.size w' w'') := fun w' h => leaks_any _ M g w' xa (L0.out w' h) M64.out
      have KC : Hid (∀ w', Two w1 c d r rv M k g g w' → Calls Try.prog 29 #[rv, .int .i64 xa] w' fun e w'' => e = .returned (.bool (decide (0 < cn (Lf g xa) M))) ∧ Below w'.heap.size w' w'') := fun w' h => call_eq (rleaks_any r rv M g xa w' h.row M64.out)
      have KD : Hid (∀ w' j, Two w1 c d r rv M k g g w' → j < M → Calls Try.prog 14 #[pt c, .int .i64 (j : Nat)] w' fun e w'' => e = .returned (.agg (g j).cs.toArray) ∧ Below w'.heap.size w' w'') := fun w' j h hj => at_yes c d M j g w' h.led hj
      obtain ⟨ap, hp⟩ : ∃ ap, ap = fm (Pf g) (Ae g) M := ⟨_, rfl⟩
      obtain ⟨av, hv⟩ : ∃ av, av = fm (Vf g xa xb) (Al g) M := ⟨_, rfl⟩
      have HAP : Hid (∀ j, ap = some j → j < M ∧ Pf g j = true) := fun j e => ⟨fm_lt (hp ▸ e), fm_yes (hp ▸ e)⟩
      have HAV : Hid (∀ j, av = some j → j < M ∧ Vf g xa xb j = true) := fun j e => ⟨fm_lt (hv ▸ e), fm_yes (hv ▸ e)⟩
      rw [← hp] at K1 K5
      rw [← hv] at K2 K6
      obtain ⟨zp, hzp⟩ : ∃ z, z = oi ap := ⟨_, rfl⟩
      obtain ⟨zv, hzv⟩ : ∃ z, z = oi av := ⟨_, rfl⟩
      have HZP : Hid (zp = oi ap) := hzp
      have HZV : Hid (zv = oi av) := hzv
      rw [← hzp] at K1 K5
      rw [← hzv] at K2 K6
      clear hp hv hzp hzv FD L0 M64
      generalize oi (fm (Gd g) (Ae g) M) = z1 at *
      generalize oi (fm (Gd g) (Ag g) M) = z2 at *
      generalize ((cn (Hf g xa) M : Nat) : Int) = zh at *
      generalize ((cn (Bf g) M : Nat) : Int) = zb at *
      generalize decide (0 < cn (Lf g xa) M) = tl at *
      have HRV : Hid (∃ ao cap, rv = .slice ao M cap) := by
        obtain ⟨ao, cap, e, -⟩ := HT.out.row
        exact ⟨ao, cap, e⟩
      obtain ⟨ao, cap, rfl⟩ := HRV.out
      clear HRV hlt HQ HW
      rcases hx with hx | ⟨hx, hy⟩
      all_goals
        have t0 : (0 : Nat) = 0 := rfl
        go_wp2_with (first
          | (have qq := t5; (with_reducible refine at_store ?_); refine store_lawC _ (i2 z1 z2) w8.heap.size 0 rfl rfl VS.out.2 rowy_arr2i.2 (i2_one _ _) ?_; intro w10 E9 R9 T9 B9; have HT : Hid (Two w1 c d r (.slice ao M cap) M k g g w10) := HT.out.below (BS.out.trans B9); have VS : Hid (Vr w10 w8.heap.size (i2 z1 z2)) := ⟨R9, T9⟩; clear E9 R9 T9 B9 BS t5)
          | (have qq := t4; (with_reducible refine at_alloc ?_); refine new_lawC _ (i2 0 0) zero_arr2i ?_; intro w9 X9 B9 l9; have VS : Hid (Vr w9 w8.heap.size (i2 0 0)) := X9; have BS : Hid (Below w8.heap.size w8 w9) := B9; clear X9 B9 t4; have t5 : (0 : Nat) = 0 := rfl)
          | (have qq := t3; go_at_call 21; refine (K4.out w7 HT.out).mono ?_; rintro e9 w8 ⟨rfl, B9⟩; have HT : Hid (Two w1 c d r (.slice ao M cap) M k g g w8) := HT.out.below B9; clear B9 t3; have t4 : (0 : Nat) = 0 := rfl)
          | (have qq := t2; go_at_call 20; refine (K3.out w6 HT.out).mono ?_; rintro e9 w7 ⟨rfl, B9⟩; have HT : Hid (Two w1 c d r (.slice ao M cap) M k g g w7) := HT.out.below B9; clear B9 t2; have t3 : (0 : Nat) = 0 := rfl)
          | (have qq := t1; go_at_call 19; refine (K2.out w5 HT.out).mono ?_; rintro e9 w6 ⟨rfl, B9⟩; have HT : Hid (Two w1 c d r (.slice ao M cap) M k g g w6) := HT.out.below B9; clear B9 t1; have t2 : (0 : Nat) = 0 := rfl)
          | (have qq := t0; go_at_call 18; refine (K1.out wr HT.out).mono ?_; rintro e9 w5 ⟨rfl, B9⟩; have HT : Hid (Two w1 c d r (.slice ao M cap) M k g g w5) := HT.out.below B9; have V5 := V1.out.below HT.out.low l1; have xc := V5.cell 0 _ rfl; have xd := V5.cell 1 _ rfl; clear V5 B9 t0; have t1 : (0 : Nat) = 0 := rfl))
        have HV : Hid (Vr w10 w.heap.size (i2 xa xb)) := V1.out.below HT.out.low l1
        have TW : Hid (∀ w', Below w10.heap.size w10 w' → Two w1 c d r (.slice ao M cap) M k g g w') := fun w' hb => HT.out.below hb
        have CC : Hid (∀ w', Below w10.heap.size w10 w' → w'.cell? ⟨w.heap.size, 0, none⟩ = some (.int .i64 xa) ∧ w'.cell? ⟨w.heap.size, 1, none⟩ = some (.int .i64 xb) ∧ w'.cell? ⟨w8.heap.size, 0, none⟩ = some (.int .i64 z1) ∧ w'.cell? ⟨w8.heap.size, 1, none⟩ = some (.int .i64 z2)) := fun w' hw' => by
          have V := HV.out.below hw' (range_lt HV.out.1 (Nat.succ_pos _))
          have V' := VS.out.below hw' (range_lt VS.out.1 (Nat.succ_pos _))
          exact ⟨V.cell 0 _ rfl, V.cell 1 _ rfl, V'.cell 0 _ rfl, V'.cell 1 _ rfl⟩
        have Q1 : Hid (∀ w', Below w10.heap.size w10 w' → Calls Try.prog 22 #[.slice ao M cap] w' fun e w'' => e = .returned (.int .i64 zp) ∧ Below w10.heap.size w10 w'') := fun w' h => call_in h h.size (K5.out w' (TW.out w' h))
        have Q2 : Hid (∀ w', Below w10.heap.size w10 w' → Calls Try.prog 23 #[.slice ao M cap, .int .i64 xa, .int .i64 xb] w' fun e w'' => e = .returned (.int .i64 zv) ∧ Below w10.heap.size w10 w'') := fun w' h => call_in h h.size (K6.out w' (TW.out w' h))
        have Q3 : Hid (∀ w', Below w10.heap.size w10 w' → Calls Try.prog 24 #[pt c, .int .i64 xa] w' fun e w'' => e = .returned (.int .i64 zh) ∧ Below w10.heap.size w10 w'') := fun w' h => call_in h h.size (K7.out w' (TW.out w' h))
        have Q4 : Hid (∀ w', Below w10.heap.size w10 w' → Calls Try.prog 25 #[.slice ao M cap, .int .i64 xa] w' fun e w'' => e = .returned (.int .i64 zh) ∧ Below w10.heap.size w10 w'') := fun w' h => call_in h h.size (K8.out w' (TW.out w' h))
        have Q5 : Hid (∀ w', Below w10.heap.size w10 w' → Calls Try.prog 26 #[pt c] w' fun e w'' => e = .returned (.int .i64 zb) ∧ Below w10.heap.size w10 w'') := fun w' h => call_in h h.size (K9.out w' (TW.out w' h))
        have Q6 : Hid (∀ w', Below w10.heap.size w10 w' → Calls Try.prog 27 #[.slice ao M cap] w' fun e w'' => e = .returned (.int .i64 zb) ∧ Below w10.heap.size w10 w'') := fun w' h => call_in h h.size (KA.out w' (TW.out w' h))
        have Q7 : Hid (∀ w', Below w10.heap.size w10 w' → Calls Try.prog 28 #[pt c, .int .i64 xa] w' fun e w'' => e = .returned (.bool tl) ∧ Below w10.heap.size w10 w'') := fun w' h => call_in h h.size (KB.out w' (TW.out w' h))
        have Q8 : Hid (∀ w', Below w10.heap.size w10 w' → Calls Try.prog 29 #[.slice ao M cap, .int .i64 xa] w' fun e w'' => e = .returned (.bool tl) ∧ Below w10.heap.size w10 w'') := fun w' h => call_in h h.size (KC.out w' (TW.out w' h))
        refine region_quietW (C := fun w' => Below w10.heap.size w10 w') (by kernel_rfl) (by kernel_rfl) (Below.refl _ _).drew ?_
        refine wq_step (fun K hK => ?_)
        refine q_val (by rfl) (some 69) rfl (.int .i64 0) (fun w' _ => by rfl) (hK _ ?_)
        simp only [Act.put, List.setIfInBounds_toArray, List.set_cons_zero, List.set_cons_succ]
        clear hK K
        refine wq_step (fun K hK => ?_)
        refine q_val (by rfl) (some 70) rfl (.bool false) (fun w' _ => by go_simp) (hK _ ?_)
        simp only [Act.put, List.setIfInBounds_toArray, List.set_cons_zero, List.set_cons_succ]
        clear hK K
        refine wq_step (fun K hK => ?_)
        refine q_val (by rfl) (some 71) rfl (.bool false) (fun w' _ => by rfl) (hK _ ?_)
        simp only [Act.put, List.setIfInBounds_toArray, List.set_cons_zero, List.set_cons_succ]
        clear hK K
        refine wq_step (fun K hK => ?_)
        refine q_val (by rfl) (some 72) rfl (.int .i64 zp) (fun w' _ => by rfl) (hK _ ?_)
        simp only [Act.put, List.setIfInBounds_toArray, List.set_cons_zero, List.set_cons_succ]
        clear hK K
        refine wq_step (fun K hK => ?_)
        refine q_val (by rfl) (some 73) rfl (.slice ao M cap) (fun w' _ => by rfl) (hK _ ?_)
        simp only [Act.put, List.setIfInBounds_toArray, List.set_cons_zero, List.set_cons_succ]
        clear hK K
        refine wq_step (fun K hK => ?_)
        refine q_call (by rfl) (some 74) rfl 22 #[.tmp 73] #[28] rfl (fun q w' => by rfl) #[.slice ao M cap] (by simp only [List.map_toArray, List.map_cons, List.map_nil]; rfl) (.int .i64 zp) (fun w' hw' => Q1.out w' hw') (hK _ ?_)
        simp only [Act.put, List.setIfInBounds_toArray, List.set_cons_zero, List.set_cons_succ]
        clear hK K
        refine wq_step (fun K hK => ?_)
        refine q_neq (by rfl) (some 75) rfl (.tmp 72) (.tmp 74) 3 3 rfl .i64 (zp) rfl rfl (hK _ ?_)
        simp only [Act.put, List.setIfInBounds_toArray, List.set_cons_zero, List.set_cons_succ]
        clear hK K
        refine wq_step (fun K hK => ?_)
        refine q_val (by rfl) (some 76) rfl (.bool false) (fun w' _ => by rfl) (hK _ ?_)
        simp only [Act.put, List.setIfInBounds_toArray, List.set_cons_zero, List.set_cons_succ]
        clear hK K
        refine wq_step (fun K hK => ?_)
        refine q_val (by rfl) (some 77) rfl (.bool false) (fun w' _ => by rfl) (hK _ ?_)
        simp only [Act.put, List.setIfInBounds_toArray, List.set_cons_zero, List.set_cons_succ]
        clear hK K
        refine wq_step (fun K hK => ?_)
        refine q_val (by rfl) (some 78) rfl (.int .i64 zv) (fun w' _ => by rfl) (hK _ ?_)
        simp only [Act.put, List.setIfInBounds_toArray, List.set_cons_zero, List.set_cons_succ]
        clear hK K
        refine wq_step (fun K hK => ?_)
        refine q_val (by rfl) (some 79) rfl (.slice ao M cap) (fun w' _ => by rfl) (hK _ ?_)
        simp only [Act.put, List.setIfInBounds_toArray, List.set_cons_zero, List.set_cons_succ]
        clear hK K
        refine wq_step (fun K hK => ?_)
        refine q_val (by rfl) (some 80) rfl (.pointer (some ⟨w.heap.size, 0, none⟩)) (fun w' _ => by go_simp) (hK _ ?_)
        simp only [Act.put, List.setIfInBounds_toArray, List.set_cons_zero, List.set_cons_succ]
        clear hK K
        refine wq_step (fun K hK => ?_)
        refine q_loadS (by rfl) (some 81) rfl (.tmp 80) 3 rfl (.pointer (some ⟨w.heap.size, 0, none⟩)) (.int .i64 xa) rfl (fun w' hw' => run_ldI w' _ _ _ (CC.out w' hw').1) (hK _ ?_)
        simp only [Act.put, List.setIfInBounds_toArray, List.set_cons_zero, List.set_cons_succ]
        clear hK K
        refine wq_step (fun K hK => ?_)
        refine q_val (by rfl) (some 82) rfl (.pointer (some ⟨w.heap.size, 1, none⟩)) (fun w' _ => by go_simp) (hK _ ?_)
        simp only [Act.put, List.setIfInBounds_toArray, List.set_cons_zero, List.set_cons_succ]
        clear hK K
        refine wq_step (fun K hK => ?_)
        refine q_loadS (by rfl) (some 83) rfl (.tmp 82) 3 rfl (.pointer (some ⟨w.heap.size, 1, none⟩)) (.int .i64 xb) rfl (fun w' hw' => run_ldI w' _ _ _ (CC.out w' hw').2.1) (hK _ ?_)
        simp only [Act.put, List.setIfInBounds_toArray, List.set_cons_zero, List.set_cons_succ]
        clear hK K
        refine wq_step (fun K hK => ?_)
        refine q_call (by rfl) (some 84) rfl 23 #[.tmp 79, .tmp 81, .tmp 83] #[28, 3, 3] rfl (fun q w' => by rfl) #[.slice ao M cap, .int .i64 xa, .int .i64 xb] (by simp only [List.map_toArray, List.map_cons, List.map_nil]; rfl) (.int .i64 zv) (fun w' hw' => Q2.out w' hw') (hK _ ?_)
        simp only [Act.put, List.setIfInBounds_toArray, List.set_cons_zero, List.set_cons_succ]
        clear hK K
        refine wq_step (fun K hK => ?_)
        refine q_neq (by rfl) (some 85) rfl (.tmp 78) (.tmp 84) 3 3 rfl .i64 (zv) rfl rfl (hK _ ?_)
        simp only [Act.put, List.setIfInBounds_toArray, List.set_cons_zero, List.set_cons_succ]
        clear hK K
        refine wq_step (fun K hK => ?_)
        refine q_val (by rfl) (some 86) rfl (.bool false) (fun w' _ => by rfl) (hK _ ?_)
        simp only [Act.put, List.setIfInBounds_toArray, List.set_cons_zero, List.set_cons_succ]
        clear hK K
        refine wq_step (fun K hK => ?_)
        refine q_val (by rfl) (some 87) rfl (.bool false) (fun w' _ => by rfl) (hK _ ?_)
        simp only [Act.put, List.setIfInBounds_toArray, List.set_cons_zero, List.set_cons_succ]
        clear hK K
        refine wq_step (fun K hK => ?_)
        refine q_val (by rfl) (some 88) rfl (pt c) (fun w' _ => by rfl) (hK _ ?_)
        simp only [Act.put, List.setIfInBounds_toArray, List.set_cons_zero, List.set_cons_succ]
        clear hK K
        refine wq_step (fun K hK => ?_)
        refine q_val (by rfl) (some 89) rfl (.pointer (some ⟨w.heap.size, 0, none⟩)) (fun w' _ => by go_simp) (hK _ ?_)
        simp only [Act.put, List.setIfInBounds_toArray, List.set_cons_zero, List.set_cons_succ]
        clear hK K
        refine wq_step (fun K hK => ?_)
        refine q_loadS (by rfl) (some 90) rfl (.tmp 89) 3 rfl (.pointer (some ⟨w.heap.size, 0, none⟩)) (.int .i64 xa) rfl (fun w' hw' => run_ldI w' _ _ _ (CC.out w' hw').1) (hK _ ?_)
        simp only [Act.put, List.setIfInBounds_toArray, List.set_cons_zero, List.set_cons_succ]
        clear hK K
        refine wq_step (fun K hK => ?_)
        refine q_call (by rfl) (some 91) rfl 24 #[.tmp 88, .tmp 90] #[23, 3] rfl (fun q w' => by rfl) #[pt c, .int .i64 xa] (by simp only [List.map_toArray, List.map_cons, List.map_nil]; rfl) (.int .i64 zh) (fun w' hw' => Q3.out w' hw') (hK _ ?_)
        simp only [Act.put, List.setIfInBounds_toArray, List.set_cons_zero, List.set_cons_succ]
        clear hK K
        refine wq_step (fun K hK => ?_)
        refine q_val (by rfl) (some 92) rfl (.slice ao M cap) (fun w' _ => by rfl) (hK _ ?_)
        simp only [Act.put, List.setIfInBounds_toArray, List.set_cons_zero, List.set_cons_succ]
        clear hK K
        refine wq_step (fun K hK => ?_)
        refine q_val (by rfl) (some 93) rfl (.pointer (some ⟨w.heap.size, 0, none⟩)) (fun w' _ => by go_simp) (hK _ ?_)
        simp only [Act.put, List.setIfInBounds_toArray, List.set_cons_zero, List.set_cons_succ]
        clear hK K
        refine wq_step (fun K hK => ?_)
        refine q_loadS (by rfl) (some 94) rfl (.tmp 93) 3 rfl (.pointer (some ⟨w.heap.size, 0, none⟩)) (.int .i64 xa) rfl (fun w' hw' => run_ldI w' _ _ _ (CC.out w' hw').1) (hK _ ?_)
        simp only [Act.put, List.setIfInBounds_toArray, List.set_cons_zero, List.set_cons_succ]
        clear hK K
        refine wq_step (fun K hK => ?_)
        refine q_call (by rfl) (some 95) rfl 25 #[.tmp 92, .tmp 94] #[28, 3] rfl (fun q w' => by rfl) #[.slice ao M cap, .int .i64 xa] (by simp only [List.map_toArray, List.map_cons, List.map_nil]; rfl) (.int .i64 zh) (fun w' hw' => Q4.out w' hw') (hK _ ?_)
        simp only [Act.put, List.setIfInBounds_toArray, List.set_cons_zero, List.set_cons_succ]
        clear hK K
        refine wq_step (fun K hK => ?_)
        refine q_neq (by rfl) (some 96) rfl (.tmp 91) (.tmp 95) 3 3 rfl .i64 (zh) rfl rfl (hK _ ?_)
        simp only [Act.put, List.setIfInBounds_toArray, List.set_cons_zero, List.set_cons_succ]
        clear hK K
        refine wq_step (fun K hK => ?_)
        refine q_val (by rfl) (some 97) rfl (.bool false) (fun w' _ => by rfl) (hK _ ?_)
        simp only [Act.put, List.setIfInBounds_toArray, List.set_cons_zero, List.set_cons_succ]
        clear hK K
        refine wq_step (fun K hK => ?_)
        refine q_val (by rfl) (some 98) rfl (.bool false) (fun w' _ => by rfl) (hK _ ?_)
        simp only [Act.put, List.setIfInBounds_toArray, List.set_cons_zero, List.set_cons_succ]
        clear hK K
        refine wq_step (fun K hK => ?_)
        refine q_val (by rfl) (some 99) rfl (pt c) (fun w' _ => by rfl) (hK _ ?_)
        simp only [Act.put, List.setIfInBounds_toArray, List.set_cons_zero, List.set_cons_succ]
        clear hK K
        refine wq_step (fun K hK => ?_)
        refine q_call (by rfl) (some 100) rfl 26 #[.tmp 99] #[23] rfl (fun q w' => by rfl) #[pt c] (by simp only [List.map_toArray, List.map_cons, List.map_nil]; rfl) (.int .i64 zb) (fun w' hw' => Q5.out w' hw') (hK _ ?_)
        simp only [Act.put, List.setIfInBounds_toArray, List.set_cons_zero, List.set_cons_succ]
        clear hK K
        refine wq_step (fun K hK => ?_)
        refine q_val (by rfl) (some 101) rfl (.slice ao M cap) (fun w' _ => by rfl) (hK _ ?_)
        simp only [Act.put, List.setIfInBounds_toArray, List.set_cons_zero, List.set_cons_succ]
        clear hK K
        refine wq_step (fun K hK => ?_)
        refine q_call (by rfl) (some 102) rfl 27 #[.tmp 101] #[28] rfl (fun q w' => by rfl) #[.slice ao M cap] (by simp only [List.map_toArray, List.map_cons, List.map_nil]; rfl) (.int .i64 zb) (fun w' hw' => Q6.out w' hw') (hK _ ?_)
        simp only [Act.put, List.setIfInBounds_toArray, List.set_cons_zero, List.set_cons_succ]
        clear hK K
        refine wq_step (fun K hK => ?_)
        refine q_neq (by rfl) (some 103) rfl (.tmp 100) (.tmp 102) 3 3 rfl .i64 (zb) rfl rfl (hK _ ?_)
        simp only [Act.put, List.setIfInBounds_toArray, List.set_cons_zero, List.set_cons_succ]
        clear hK K
        refine wq_step (fun K hK => ?_)
        refine q_val (by rfl) (some 104) rfl (.bool false) (fun w' _ => by rfl) (hK _ ?_)
        simp only [Act.put, List.setIfInBounds_toArray, List.set_cons_zero, List.set_cons_succ]
        clear hK K
        refine wq_step (fun K hK => ?_)
        refine q_val (by rfl) (some 105) rfl (.bool false) (fun w' _ => by rfl) (hK _ ?_)
        simp only [Act.put, List.setIfInBounds_toArray, List.set_cons_zero, List.set_cons_succ]
        clear hK K
        refine wq_step (fun K hK => ?_)
        refine q_val (by rfl) (some 106) rfl (.int .i64 z1) (fun w' _ => by rfl) (hK _ ?_)
        simp only [Act.put, List.setIfInBounds_toArray, List.set_cons_zero, List.set_cons_succ]
        clear hK K
        refine wq_step (fun K hK => ?_)
        refine q_val (by rfl) (some 107) rfl (.pointer (some ⟨w8.heap.size, 0, none⟩)) (fun w' _ => by go_simp) (hK _ ?_)
        simp only [Act.put, List.setIfInBounds_toArray, List.set_cons_zero, List.set_cons_succ]
        clear hK K
        refine wq_step (fun K hK => ?_)
        refine q_loadS (by rfl) (some 108) rfl (.tmp 107) 3 rfl (.pointer (some ⟨w8.heap.size, 0, none⟩)) (.int .i64 z1) rfl (fun w' hw' => run_ldI w' _ _ _ (CC.out w' hw').2.2.1) (hK _ ?_)
        simp only [Act.put, List.setIfInBounds_toArray, List.set_cons_zero, List.set_cons_succ]
        clear hK K
        refine wq_step (fun K hK => ?_)
        refine q_neq (by rfl) (some 109) rfl (.tmp 106) (.tmp 108) 3 3 rfl .i64 (z1) rfl rfl (hK _ ?_)
        simp only [Act.put, List.setIfInBounds_toArray, List.set_cons_zero, List.set_cons_succ]
        clear hK K
        refine wq_step (fun K hK => ?_)
        refine q_val (by rfl) (some 110) rfl (.bool false) (fun w' _ => by rfl) (hK _ ?_)
        simp only [Act.put, List.setIfInBounds_toArray, List.set_cons_zero, List.set_cons_succ]
        clear hK K
        refine wq_step (fun K hK => ?_)
        refine q_val (by rfl) (some 111) rfl (.bool false) (fun w' _ => by rfl) (hK _ ?_)
        simp only [Act.put, List.setIfInBounds_toArray, List.set_cons_zero, List.set_cons_succ]
        clear hK K
        refine wq_step (fun K hK => ?_)
        refine q_val (by rfl) (some 112) rfl (.int .i64 z2) (fun w' _ => by rfl) (hK _ ?_)
        simp only [Act.put, List.setIfInBounds_toArray, List.set_cons_zero, List.set_cons_succ]
        clear hK K
        refine wq_step (fun K hK => ?_)
        refine q_val (by rfl) (some 113) rfl (.pointer (some ⟨w8.heap.size, 1, none⟩)) (fun w' _ => by go_simp) (hK _ ?_)
        simp only [Act.put, List.setIfInBounds_toArray, List.set_cons_zero, List.set_cons_succ]
        clear hK K
        refine wq_step (fun K hK => ?_)
        refine q_loadS (by rfl) (some 114) rfl (.tmp 113) 3 rfl (.pointer (some ⟨w8.heap.size, 1, none⟩)) (.int .i64 z2) rfl (fun w' hw' => run_ldI w' _ _ _ (CC.out w' hw').2.2.2) (hK _ ?_)
        simp only [Act.put, List.setIfInBounds_toArray, List.set_cons_zero, List.set_cons_succ]
        clear hK K
        refine wq_step (fun K hK => ?_)
        refine q_neq (by rfl) (some 115) rfl (.tmp 112) (.tmp 114) 3 3 rfl .i64 (z2) rfl rfl (hK _ ?_)
        simp only [Act.put, List.setIfInBounds_toArray, List.set_cons_zero, List.set_cons_succ]
        clear hK K
        refine wq_step (fun K hK => ?_)
        refine q_val (by rfl) (some 116) rfl (.bool false) (fun w' _ => by rfl) (hK _ ?_)
        simp only [Act.put, List.setIfInBounds_toArray, List.set_cons_zero, List.set_cons_succ]
        clear hK K
        refine wq_step (fun K hK => ?_)
        refine q_val (by rfl) (some 117) rfl (.bool false) (fun w' _ => by rfl) (hK _ ?_)
        simp only [Act.put, List.setIfInBounds_toArray, List.set_cons_zero, List.set_cons_succ]
        clear hK K
        refine wq_step (fun K hK => ?_)
        refine q_val (by rfl) (some 118) rfl (pt c) (fun w' _ => by rfl) (hK _ ?_)
        simp only [Act.put, List.setIfInBounds_toArray, List.set_cons_zero, List.set_cons_succ]
        clear hK K
        refine wq_step (fun K hK => ?_)
        refine q_val (by rfl) (some 119) rfl (.pointer (some ⟨w.heap.size, 0, none⟩)) (fun w' _ => by go_simp) (hK _ ?_)
        simp only [Act.put, List.setIfInBounds_toArray, List.set_cons_zero, List.set_cons_succ]
        clear hK K
        refine wq_step (fun K hK => ?_)
        refine q_loadS (by rfl) (some 120) rfl (.tmp 119) 3 rfl (.pointer (some ⟨w.heap.size, 0, none⟩)) (.int .i64 xa) rfl (fun w' hw' => run_ldI w' _ _ _ (CC.out w' hw').1) (hK _ ?_)
        simp only [Act.put, List.setIfInBounds_toArray, List.set_cons_zero, List.set_cons_succ]
        clear hK K
        refine wq_step (fun K hK => ?_)
        refine q_call (by rfl) (some 121) rfl 28 #[.tmp 118, .tmp 120] #[23, 3] rfl (fun q w' => by rfl) #[pt c, .int .i64 xa] (by simp only [List.map_toArray, List.map_cons, List.map_nil]; rfl) (.bool tl) (fun w' hw' => Q7.out w' hw') (hK _ ?_)
        simp only [Act.put, List.setIfInBounds_toArray, List.set_cons_zero, List.set_cons_succ]
        clear hK K
        refine wq_step (fun K hK => ?_)
        refine q_val (by rfl) (some 122) rfl (.slice ao M cap) (fun w' _ => by rfl) (hK _ ?_)
        simp only [Act.put, List.setIfInBounds_toArray, List.set_cons_zero, List.set_cons_succ]
        clear hK K
        refine wq_step (fun K hK => ?_)
        refine q_val (by rfl) (some 123) rfl (.pointer (some ⟨w.heap.size, 0, none⟩)) (fun w' _ => by go_simp) (hK _ ?_)
        simp only [Act.put, List.setIfInBounds_toArray, List.set_cons_zero, List.set_cons_succ]
        clear hK K
        refine wq_step (fun K hK => ?_)
        refine q_loadS (by rfl) (some 124) rfl (.tmp 123) 3 rfl (.pointer (some ⟨w.heap.size, 0, none⟩)) (.int .i64 xa) rfl (fun w' hw' => run_ldI w' _ _ _ (CC.out w' hw').1) (hK _ ?_)
        simp only [Act.put, List.setIfInBounds_toArray, List.set_cons_zero, List.set_cons_succ]
        clear hK K
        refine wq_step (fun K hK => ?_)
        refine q_call (by rfl) (some 125) rfl 29 #[.tmp 122, .tmp 124] #[28, 3] rfl (fun q w' => by rfl) #[.slice ao M cap, .int .i64 xa] (by simp only [List.map_toArray, List.map_cons, List.map_nil]; rfl) (.bool tl) (fun w' hw' => Q8.out w' hw') (hK _ ?_)
        simp only [Act.put, List.setIfInBounds_toArray, List.set_cons_zero, List.set_cons_succ]
        clear hK K
        refine wq_step (fun K hK => ?_)
        refine q_val (by rfl) (some 126) rfl (.bool false) (fun w' _ => by go_simp) (hK _ ?_)
        simp only [Act.put, List.setIfInBounds_toArray, List.set_cons_zero, List.set_cons_succ]
        clear hK K
        refine wq_step (fun K hK => ?_)
        refine q_val (by rfl) (some 127) rfl (.bool false) (fun w' _ => by rfl) (hK _ ?_)
        simp only [Act.put, List.setIfInBounds_toArray, List.set_cons_zero, List.set_cons_succ]
        clear hK K
        refine wq_nil ?_
        intro w11 B11
        have HT : Hid (Two w1 c d r (.slice ao M cap) M k g g w11) := TW.out w11 B11
        have BB : Hid (Below w.heap.size w w11) := C1.out.trans (HT.out.low.mono (Nat.le_of_lt l1))
        clear Q1 Q2 Q3 Q4 Q5 Q6 Q7 Q8 CC TW HV K1 K2 K3 K4 K5 K6 K7 K8 K9 KA KB KC B11
        cases ap with
        | none =>
          have hzp : zp = -1 := HZP.out
          subst hzp
          cases av with
          | none =>
            have hzv : zv = -1 := HZV.out
            subst hzv
            have t0 : (0 : Nat) = 0 := rfl
            go_wp2_with (have qq := t0; go_at_call 7; refine (awake_any _).mono ?_; rintro e9 w12 ⟨rfl, B9⟩; have BB : Hid (Below w.heap.size w w12) := BB.out.trans (B9.mono BB.out.size); clear B9 t0)
            go_ret
            exact ⟨rfl, BB.out⟩
          | some jv =>
            have hzv : zv = (jv : Int) := HZV.out
            subst hzv
            have v0 : ¬ (jv : Int) < 0 := by omega
            have hfl := fld4
            have hh : (g jv).h = true := by
              have := (HAV.out jv rfl).2
              unfold Vf Hf at this
              simp only [Bool.and_eq_true] at this
              exact this.2.1.1
            have KV : Hid (∀ w', Two w1 c d r (.slice ao M cap) M k g g w' → Calls Try.prog 14 #[pt c, .int .i64 (jv : Nat)] w' fun e w'' => e = .returned (.agg #[.int .i64 (g jv).o, .int .i64 (g jv).u, .int .i64 (g jv).l, .int .i64 (g jv).e, .bool (g jv).h, .bool (g jv).c, .bool (g jv).b, .bool (g jv).g, .bool (g jv).k]) ∧ Below w'.heap.size w' w'') := fun w' h => KD.out w' jv h (HAV.out jv rfl).1
            have t0 : (0 : Nat) = 0 := rfl
            go_wp2_with (first
              | (have qq := t1; go_at_call 7; refine (awake_any _).mono ?_; rintro e9 w13 ⟨rfl, B9⟩; have BB : Hid (Below w.heap.size w w13) := BB.out.trans (B9.mono BB.out.size); clear B9 t1)
              | (have qq := t0; go_at_call 14; refine (KV.out w11 HT.out).mono ?_; rintro e9 w12 ⟨rfl, B9⟩; have BB : Hid (Below w.heap.size w w12) := BB.out.trans (B9.mono BB.out.size); clear B9 t0; have t1 : (0 : Nat) = 0 := rfl))
            go_ret
            exact ⟨rfl, BB.out⟩
        | some jp =>
          have hzp : zp = (jp : Int) := HZP.out
          subst hzp
          have p0 : ¬ (jp : Int) < 0 := by omega
          have KP : Hid (∀ w', Two w1 c d r (.slice ao M cap) M k g g w' → Calls Try.prog 14 #[pt c, .int .i64 (jp : Nat)] w' fun e w'' => e = .returned (.agg (g jp).cs.toArray) ∧ Below w'.heap.size w' w'') := fun w' h => KD.out w' jp h (HAP.out jp rfl).1
          have KF : Hid (∀ w', Calls Try.prog 17 #[.agg (g jp).cs.toArray] w' fun e w'' => e = .returned (.bool true) ∧ Below w'.heap.size w' w'') := fun w' => by
            have h1 := free_any (g jp) w'
            have h2 : (!(g jp).h && !(g jp).b) = true := (HAP.out jp rfl).2
            rw [h2] at h1; exact h1
          cases av with
          | none =>
            have hzv : zv = -1 := HZV.out
            subst hzv
            have t0 : (0 : Nat) = 0 := rfl
            go_wp2_with (first
              | (have qq := t2; go_at_call 7; refine (awake_any _).mono ?_; rintro e9 w14 ⟨rfl, B9⟩; have BB : Hid (Below w.heap.size w w14) := BB.out.trans (B9.mono BB.out.size); clear B9 t2)
              | (have qq := t1; go_at_call 17; refine (KF.out w12).mono ?_; rintro e9 w13 ⟨rfl, B9⟩; have BB : Hid (Below w.heap.size w w13) := BB.out.trans (B9.mono BB.out.size); clear B9 t1; have t2 : (0 : Nat) = 0 := rfl)
              | (have qq := t0; go_at_call 14; refine (KP.out w11 HT.out).mono ?_; rintro e9 w12 ⟨rfl, B9⟩; have BB : Hid (Below w.heap.size w w12) := BB.out.trans (B9.mono BB.out.size); clear B9 t0; have t1 : (0 : Nat) = 0 := rfl))
            go_ret
            exact ⟨rfl, BB.out⟩
          | some jv =>
            have hzv : zv = (jv : Int) := HZV.out
            subst hzv
            have v0 : ¬ (jv : Int) < 0 := by omega
            have hfl := fld4
            have hh : (g jv).h = true := by
              have := (HAV.out jv rfl).2
              unfold Vf Hf at this
              simp only [Bool.and_eq_true] at this
              exact this.2.1.1
            have KV : Hid (∀ w', Two w1 c d r (.slice ao M cap) M k g g w' → Calls Try.prog 14 #[pt c, .int .i64 (jv : Nat)] w' fun e w'' => e = .returned (.agg #[.int .i64 (g jv).o, .int .i64 (g jv).u, .int .i64 (g jv).l, .int .i64 (g jv).e, .bool (g jv).h, .bool (g jv).c, .bool (g jv).b, .bool (g jv).g, .bool (g jv).k]) ∧ Below w'.heap.size w' w'') := fun w' h => KD.out w' jv h (HAV.out jv rfl).1
            have t0 : (0 : Nat) = 0 := rfl
            go_wp2_with (first
              | (have qq := t3; go_at_call 7; refine (awake_any _).mono ?_; rintro e9 w15 ⟨rfl, B9⟩; have BB : Hid (Below w.heap.size w w15) := BB.out.trans (B9.mono BB.out.size); clear B9 t3)
              | (have qq := t2; go_at_call 14; refine (KV.out w13 HT.out).mono ?_; rintro e9 w14 ⟨rfl, B9⟩; have BB : Hid (Below w.heap.size w w14) := BB.out.trans (B9.mono BB.out.size); clear B9 t2; have t3 : (0 : Nat) = 0 := rfl)
              | (have qq := t1; go_at_call 17; refine (KF.out w12).mono ?_; rintro e9 w13 ⟨rfl, B9⟩; have BB : Hid (Below w.heap.size w w13) := BB.out.trans (B9.mono BB.out.size); have HT : Hid (Two w1 c d r (.slice ao M cap) M k g g w13) := HT.out.below B9; clear B9 t1; have t2 : (0 : Nat) = 0 := rfl)
              | (have qq := t0; go_at_call 14; refine (KP.out w11 HT.out).mono ?_; rintro e9 w12 ⟨rfl, B9⟩; have BB : Hid (Below w.heap.size w w12) := BB.out.trans (B9.mono BB.out.size); have HT : Hid (Two w1 c d r (.slice ao M cap) M k g g w12) := HT.out.below B9; clear B9 t0; have t1 : (0 : Nat) = 0 := rfl))
            go_ret
            exact ⟨rfl, BB.out⟩

theorem params : ∀ t ∈ Try.f4.params.toList, Try.prog.readableRec t = true ∧ t < Try.prog.types.size := by
  rw [Try.params4]
  intro t ht
  simp at ht
  rcases ht with rfl | rfl | rfl
  · exact ⟨by kernel_rfl, of_decide_eq_true (by kernel_rfl)⟩
  · exact ⟨by kernel_rfl, of_decide_eq_true (by kernel_rfl)⟩
  · exact ⟨by kernel_rfl, of_decide_eq_true (by kernel_rfl)⟩

theorem contract (H : Type) (enc : TypeId × Value → H) (W : World) (base : Nat) (args : Array Value) (ds gs : List (DataW H)) (before : List MemPlace)
    (hval : ∀ (j : Nat) t v, Try.f4.params[j]? = some t → args[j]? = some v → Value.okWide Try.prog W .any base t v)
    (hW : DataW.Whole enc Try.prog Try.f4.params.toList Rows.ledgerTellsSpec.vars false W args.toList ds gs before) :
    Calls Try.prog 4 args W fun e W' => ∃ v, e = .returned v ∧ Rows.ledgerTellsSpec.post enc Try.prog Try.f4 false true false false W args v W' := by
  have hW' := hW
  obtain ⟨p, q, hA0, hV, rfl, hfz, hnd⟩ := hW
  have hA : DataW.TrodAll enc Try.prog W 0 (fun _ => true) true Try.f4.params.toList args.toList ds p := hA0
  rw [Try.params4] at hA hval
  obtain ⟨v0, v1, v2, d0, d1, d2, p0, p1, p2, rfl, rfl, rfl, h0, h1, h2⟩ := trodAll_three hA
  obtain ⟨rfl, rfl⟩ := trodVars_none hV
  obtain ⟨x0, rfl, rfl, rfl, w0⟩ := open_int Try.underlying5 (hval 0 5 v0 rfl rfl) h0
  obtain ⟨sm1, sq1, b1⟩ := le.steps_open (hval 1 22 v1 rfl rfl) h1
  obtain ⟨pa2, pb2, rfl⟩ := le.pair2_open (hval 2 45 v2 rfl rfl) h2
  clear hA0
  refine (walk x0 v1 sm1 sq1 pa2 pb2 W (bounds_u8 w0) b1).mono fun e W' ⟨he, hg⟩ => ?_
  subst he
  exact ⟨_, rfl, post_law rfl (by kernel_rfl) params rfl rfl rfl hW' hg⟩

theorem laid_met (os : Os) : laidMet Try.prog Rows.ledgerTellsRow.laid ((World.holding Try.prog os ⟨#[], #[], []⟩).forCall (fun _ _ => 0) ⟨#[], #[.int .u8 0, .slice none 0 0, .agg #[.int .i64 0, .int .i64 0]], []⟩).memory :=
  laidMet_of_run' 8 (by kernel_rfl) (by kernel_rfl)
theorem reads (os : Os) {H : Type} (enc : TypeId × Value → H) : ∃ places, DataW.whole enc Try.prog ((World.holding Try.prog os ⟨#[], #[], []⟩).forCall (fun _ _ => 0) ⟨#[], #[.int .u8 0, .slice none 0 0, .agg #[.int .i64 0, .int .i64 0]], []⟩).memory Try.f4.params.toList Rows.ledgerTellsSpec.vars false #[Value.int .u8 0, Value.slice none 0 0, Value.agg #[.int .i64 0, .int .i64 0]].toList 8 = some ([.lit (.int .u8 0), .nil, .agg [.lit (.int .i64 0), .lit (.int .i64 0)]], [], places) :=
  ⟨[], by kernel_rfl⟩

set_option maxRecDepth 100000 in
theorem lifted (os : Os) (started : os.Started) (H : Type) (enc : TypeId × Value → H) (F : Stop.Interp) :
    ReturnsInHanded {} Try.checked os 4 .any ((OpenSpec.ofChange Rows.ledgerTellsSpec).preRow enc Try.prog Try.f4 Rows.ledgerTellsRow.domain false Rows.ledgerTellsRow.laid) (((OpenSpec.ofChange Rows.ledgerTellsSpec).at F).post enc Try.prog Try.f4 false true false false) := by
  obtain ⟨places, hx⟩ := reads os enc
  refine returnsInHanded_of_row (C := Try.checked) (s := OpenSpec.ofChange Rows.ledgerTellsSpec) own started (by kernel_rfl) Try.func4
    (witness_row_at (enc := enc) (C := Try.checked) false (World.holding Try.prog os ⟨#[], #[], []⟩) #[.int .u8 0, .slice none 0 0, .agg #[.int .i64 0, .int .i64 0]] rfl (by kernel_rfl) (by kernel_rfl) (by kernel_rfl)
      (OpenSpec.preRow_of_cond 8 hx (by kernel_rfl) (fun k hk => by cases hk) (by kernel_rfl) (laid_met os))) ?_
  intro W base args ds gs before hval hW _ _ _ _ _ _
  exact contract H enc W base args ds gs before hval hW

theorem said : Rows.LedgerTellsSaid :=
  OpenClaim.holds_of_cond 4 Try.f4 rfl rfl rfl rfl rfl rfl rfl ⟨rfl, rfl, rfl, rfl, rfl⟩ rfl rfl rfl rfl rfl (by kernel_rfl) Try.func4 (by kernel_rfl)
    (of_decide_eq_true (by kernel_rfl)) (by unfold Func.isWrapper; first | (rw [if_pos (by decide +kernel)]; kernel_rfl) | (rw [if_neg (by decide +kernel)]; exact ⟨rfl, rfl⟩))
    (fun os started H enc _ F => by rw [OpenClaim.pre_eq_preRow]; exact lifted os started H enc F)
end Go.Proofs.Ytnmofigidlmcaaa.ledgerTells

namespace Go.Proofs.Ytnmofigidlmcaaa
theorem ledgerTells_said : Rows.LedgerTellsSaid := ledgerTells.said
#print axioms ledgerTells_said
end Go.Proofs.Ytnmofigidlmcaaa
