/- Whether any faults are a plan, and what happens at any operation, is what the reference tells; a copy is the same, and stays as it is, whatever is done to the one that it was copied of; and the program answers. -/
import Derived.Test.YtkpnmandpmfhjaaUAwk
import Derived.Test.YtkpnmandpmfhjaaUTwo
import Derived.Test.YtkpnmandpmfhjaaUOpen
import Derived.Test.YtkpnmandpmfhjaaSame
import Derived.Test.YtkpnmandpmfhjaaLawG
namespace Go.Proofs.Ytkpnmandpmfhjaa.faultPlans
open Go.ChangeShapes Go.WideShapes Go.ChangeAt Go.RowKit

open Go.Proofs.Ytkpnmandpmfhjaa.fa

set_option maxRecDepth 20000 in
set_option maxHeartbeats 8000000 in
theorem walk_l (v0 : Value) (n : Int) (fs : List (Int × Bool × Value)) (w : World) (h0 : Fls w v0 fs) (hl : 100 < fs.length) :
    Calls Try.prog 7 #[v0, .int .i64 n] w fun e w' => e = .returned (.bool true) ∧ Below w.heap.size w w' := by
  have AW : Hid (∀ w0, Calls Try.prog 10 #[] w0 fun e w' => e = .returned (.bool true) ∧ Below w0.heap.size w0 w') := awake_any
  obtain ⟨ao, ca, rfl, c1, c2, -⟩ := h0
  have l1 : (100 : Int) < (fs.length : Int) := by omega
  go_enter Try.func7, Try.ntmps7
  go_wp2_with (go_at_call 10; refine (AW.out _).mono ?_; rintro e w9 ⟨rfl, B9⟩)
  go_ret
  exact ⟨rfl, B9⟩

set_option maxRecDepth 20000 in
set_option maxHeartbeats 8000000 in
theorem walk_pf (v0 : Value) (fs : List (Int × Bool × Value)) (ms : Nat → List Int) (n : Int) (w : World) (h0 : Fls w v0 fs) (hm : Mks w fs ms) (hl : fs.length ≤ 100) (hp : fs.length ≤ 64 ∧ Okp fs ms fs.length) (t : Nat) (hf : Fst fs n t) :
    Calls Try.prog 7 #[v0, .int .i64 n] w fun e w' => e = .returned (.bool true) ∧ Below w.heap.size w w' := by
  have AW : Hid (∀ w0, Calls Try.prog 10 #[] w0 fun e w' => e = .returned (.bool true) ∧ Below w0.heap.size w0 w') := awake_any
  have SK : Hid (∀ w0, Below w.heap.size w w0 → Calls Try.prog 19 #[v0] w0 fun e w' => e = .returned (.int .i64 0) ∧ Below w0.heap.size w0 w') := fun w0 hb => check_any v0 fs ms w0 (h0.below hb) (hm.below hb) 0 (fun _ _ => rfl) (fun q => absurd hp q)
  have SR : Hid (∀ w0, Below w.heap.size w w0 → Calls Try.prog 20 #[v0] w0 fun e w' => e = .returned (.bool true) ∧ ∃ n, w' = w0.drewN n) := fun w0 hb => rright_any v0 fs ms w0 (h0.below hb) (hm.below hb) true (iff_of_true rfl hp)
  have SC : Hid (∀ w0, Below w.heap.size w w0 → Calls Try.prog 23 #[v0] w0 fun e w' => ∃ v', e = .returned v' ∧ CopyIs w0.heap.size fs ms v' w' ∧ Below w0.heap.size w0 w') := fun w0 hb => copy_any v0 fs ms w0 (h0.below hb) (hm.below hb) hl
  have SD : Hid (∀ v gs w0, Fls w0 v gs → Mks w0 gs ms → gs.length ≤ 100 → Calls Try.prog 23 #[v] w0 fun e w' => ∃ v', e = .returned v' ∧ CopyIs w0.heap.size gs ms v' w' ∧ Below w0.heap.size w0 w') := fun v gs w0 q1 q2 q3 => copy_any v gs ms w0 q1 q2 q3
  have HMB : Hid (∀ t, t < fs.length → (ms t).length ≤ 140737488355328) := fun t ht => (hm t ht).2
  have SS : Hid (∀ va vb (zs : List Int) w0, Byt w0 va zs → Byt w0 vb zs → Calls Try.prog 13 #[va, vb] w0 fun e w' => e = .returned (.bool true) ∧ ∃ n, w' = w0.drewN n) := fun va vb zs w0 q1 q2 => by
    have := same_any w0 va vb zs zs q1 q2
    rwa [decide_eq_true rfl] at this
  have ht := hf.1
  obtain ⟨x, cr, lo, lc, hg⟩ := split_flt hm ht
  have hxn : x = n := by have := hf.2.1; rw [hg] at this; exact this
  subst hxn
  have SA : Hid (∀ w0, Below w.heap.size w w0 → Calls Try.prog 21 #[v0, .int .i64 x] w0 fun e w' => ∃ fo fc, e = .returned (.tuple #[fv (x, cr, .slice fo (ms t).length fc), .bool true]) ∧ Byt w' (.slice fo (ms t).length fc) (ms t) ∧ Below w0.heap.size w0 w') := fun w0 hb => by
    refine (at_any v0 fs ms x w0 (h0.below hb) (hm.below hb)).mono ?_
    rintro e w' ⟨f, ok, rfl, q1, q2, -⟩
    obtain ⟨rfl, q3, q4, q5⟩ := q2 t hf
    obtain ⟨fo, fc, q6⟩ := byt_form q5
    rw [hg] at q4
    refine ⟨fo, fc, ?_, by rw [← q6]; exact q5, q1⟩
    rw [show f = (f.1, f.2.1, f.2.2) from rfl, q3, q4, q6]
  have SB : Hid (∀ w0, Below w.heap.size w w0 → Calls Try.prog 22 #[v0, .int .i64 x] w0 fun e w' => e = .returned (.int .i64 (t : Int)) ∧ ∃ n, w' = w0.drewN n) := fun w0 hb => rat_any v0 fs x w0 (h0.below hb) t (fun s hs => by
    rcases Nat.lt_trichotomy s t with q | q | q
    · exact absurd hs.2.1 (hf.2.2 s q)
    · rw [q]
    · exact absurd hf.2.1 (hs.2.2 t q)) (fun q => absurd hf.2.1 (q t hf.1))
  have HYL : Hid (Byt w (.slice lo (ms t).length lc) (ms t)) := by have := (hm t ht).1; rw [hg] at this; exact this
  have t1 : (t : Int) < (fs.length : Int) := by omega
  have tz : (0 : Int) ≤ (t : Int) := by omega
  have HM : Hid (Mks w fs ms) := hm
  obtain ⟨ao, ca, rfl, c1, c2, a3, a4⟩ := h0
  have H4 : Hid (0 < fs.length → ∃ b off, ao = some ⟨b, off, none⟩ ∧ ∀ t, t < fs.length → FlA w b (off + t * 3) (gf fs t)) := a4
  obtain ⟨b, off, rfl, hc⟩ := a4 (by omega)
  have hfa := hc t ht
  rw [hg] at hfa
  have HFT : Hid (FlA w b (off + t * 3) (x, cr, .slice lo (ms t).length lc)) := hfa
  clear hc hfa hf hg ht
  clear a3 a4 hm hp
  have l1 : (fs.length : Int) ≤ 100 := by omega
  have BB : Hid (Below w.heap.size w w) := Below.refl _ _
  have t0 : (0 : Nat) = 0 := rfl
  go_enter Try.func7, Try.ntmps7
  go_wp2_with (first
    | (have q := t6; refine store_lawV _ (x, cr, .slice fo (ms t).length fc) w5.heap.size 0 rfl rfl HV6.out.2 rfl ?_; intro w7 E7 A7 T7 B7; have HA7 : Hid (FlA w7 w5.heap.size 0 (x, cr, .slice fo (ms t).length fc)) := A7; have BA : Below w5.heap.size w5 w7 := B6.trans B7; have BB7 : Hid (Below w.heap.size w w7) := BB5.out.trans (BA.mono BB5.out.size); have Y7 : Hid (Byt w7 (.slice fo (ms t).length fc) (ms t)) := Y5.out.below BA; clear A7 T7 E7 B6 B7 BA t6; have t7 : (7 : Nat) = 7 := rfl)
    | (have q := t5; refine new_lawV _ ?_; intro w6 V6 B6 l6; have HV6 : Hid (FlV w6 w5.heap.size f0) := V6; clear V6 t5; have t6 : (6 : Nat) = 6 := rfl)
    | (have q := t4; go_at_call 21; refine (SA.out _ BB3.out).mono ?_; rintro e w5 ⟨fo, fc, rfl, y5, B5⟩; have Y5 : Hid (Byt w5 (.slice fo (ms t).length fc) (ms t)) := y5; have BB5 : Hid (Below w.heap.size w w5) := BB3.out.trans (B5.mono BB3.out.size); clear t4 B5 y5; have t5 : (5 : Nat) = 5 := rfl)
    | (have q := t2; go_at_call 20; refine (SR.out _ BB2.out).mono ?_; rintro e wx ⟨rfl, n3, hw⟩; obtain rfl := hw.symm; have BB3 : Hid (Below w.heap.size w (w1.drewN (n2 + n3))) := below_drawn BB1.out (n2 + n3); clear t2; have t3 : (3 : Nat) = 3 := rfl; have t4 : (4 : Nat) = 4 := rfl)
    | (have q := t1'; go_at_call 20; refine (SR.out _ BB1.out).mono ?_; rintro e wx ⟨rfl, n2, hw⟩; obtain rfl := hw.symm; have BB2 : Hid (Below w.heap.size w (w1.drewN n2)) := below_drawn BB1.out n2; clear t1'; have t2 : (2 : Nat) = 2 := rfl)
    | (have q := t0; go_at_call 19; refine (SK.out _ BB.out).mono ?_; rintro e w1 ⟨rfl, B1⟩; have BB1 : Hid (Below w.heap.size w w1) := BB.out.trans (B1.mono BB.out.size); clear t0 B1; have t1' : (1 : Nat) = 1 := rfl)
    | (have q := t7; go_at_call 22; refine (SB.out _ BB7.out).mono ?_; rintro e wx ⟨rfl, n8, hw⟩; obtain rfl := hw.symm; clear t7))
  have BB8 : Hid (Below w.heap.size w (w7.drewN n8)) := below_drawn BB7.out n8
  obtain ⟨w8, hw8⟩ : ∃ w8, w8 = w7.drewN n8 := ⟨_, rfl⟩
  have d0 : w8.cell? ⟨w5.heap.size, 0, none⟩ = some (.int .i64 x) := by rw [hw8]; exact HA7.out.1
  have d1 : w8.cell? ⟨w5.heap.size, 1, none⟩ = some (.bool cr) := by rw [hw8]; exact HA7.out.2.1
  have d2 : w8.cell? ⟨w5.heap.size, 2, none⟩ = some (.slice fo (ms t).length fc) := by rw [hw8]; exact HA7.out.2.2
  rw [← hw8] at BB8 ⊢
  have HFL := HFT.out.below BB8.out HFT.out.lt
  have e1 : w8.cell? ⟨b, off + t * 3 + 1, none⟩ = some (.bool cr) := HFL.2.1
  have e2 : w8.cell? ⟨b, off + t * 3 + 2, none⟩ = some (.slice lo (ms t).length lc) := HFL.2.2
  have TS : Hid (∀ m, Calls Try.prog 13 #[.slice fo (ms t).length fc, .slice lo (ms t).length lc] (w8.drewN m) fun e w' => e = .returned (.bool true) ∧ ∃ k, w' = (w8.drewN m).drewN k) := fun m => SS.out _ _ (ms t) _ (by rw [hw8]; exact Y7.out) (HYL.out.below (below_drawn BB8.out m))
  clear hw8 HFL
  go_quiet ((go_at_call 13; exact Calls.quiet_of (TS.out _)))
  have BB9 : Hid (Below w.heap.size w (w8.drewN nq)) := below_drawn BB8.out nq
  obtain ⟨w9, hw9⟩ : ∃ w9, w9 = w8.drewN nq := ⟨_, rfl⟩
  rw [← hw9] at BB9 ⊢
  clear hw9 d0 d1 d2
  have u0 : (0 : Nat) = 0 := rfl
  go_wp2_with (first
    | (have q := u1; go_at_call 23; refine (SD.out _ gs _ HFM.out.1 HFM.out.2 (by have := HGL.out; omega)).mono ?_; rintro e wd ⟨vB, rfl, yB, BD⟩
       obtain ⟨hs, dc, qq, dq, hv, y1, y2, y3, y4, cop2⟩ := yB
       rw [HGL.out] at hv y1 y4 cop2
       subst hv
       have HQ : Hid (0 < fs.length → dq = some ⟨qq, 0, none⟩ ∧ wA.heap.size ≤ qq) := y4
       have HC2 : Hid (Cop wA.heap.size wd qq fs.length fs.length gs hs ms) := cop2
       have HBD : Hid (Below wA.heap.size wA wd) := BD
       clear y3 y4 cop2 BD u1)
    | (have q := u0; go_at_call 23; refine (SC.out _ BB9.out).mono ?_; rintro e wA ⟨vA, rfl, yA, BA⟩
       obtain ⟨gs, cc, g, co, rfl, x1, x2, x3, x4, cop1⟩ := yA
       have HGL : Hid (gs.length = fs.length) := cop1.1
       have HFM : Hid (Fls wA (.slice co fs.length cc) gs ∧ Mks wA gs ms) := cop_fls cop1 x1 x2 x3 (fun h => (x4 h).1) HMB.out
       have HP : Hid (0 < fs.length → co = some ⟨g, 0, none⟩ ∧ w9.heap.size ≤ g) := x4
       have HC1 : Hid (Cop w9.heap.size wA g fs.length fs.length fs gs ms) := cop1
       have HBA : Hid (Below w9.heap.size w9 wA) := BA
       clear x3 x4 cop1 BA u0; have u1 : (1 : Nat) = 1 := rfl))
  have HLL : Hid (∀ s, s < fs.length → FlA w b (off + s * 3) (gf fs s)) := fun s hs => by
    obtain ⟨b1, off1, e, hc⟩ := H4.out (by omega)
    cases e
    exact hc s hs
  have HT : Hid (Two w.heap.size wA.heap.size w wd b off g qq fs.length fs gs hs ms) := two_mk rfl HLL.out HM.out BB9.out HBA.out HBD.out HC1.out HC2.out (fun h => (HQ.out h).2)
  have HBW : Hid (Below w.heap.size w wd) := HT.out.1
  clear HC1 HC2 HFM BB9 HBA HBD
  go_loopw [10] (fun i wr => ∃ k : Nat, k ≤ fs.length ∧ i = .int .i64 k ∧ Hid (Wr w.heap.size wA.heap.size wd wr)) (fun i _ => fs.length - (intOf i).toNat)
  case atStart => exact ⟨0, Nat.zero_le _, rfl, Wr.refl _ _ _⟩
  case round =>
    obtain ⟨k, hk, rfl, HR⟩ := hrel
    obtain ⟨wa, rfl⟩ : ∃ wx, wx = wr := ⟨_, rfl⟩
    have k0 : (0 : Int) ≤ (k : Int) := by omega
    by_cases hlt : k < fs.length
    · have k1 : (k : Int) < (fs.length : Int) := by omega
      obtain ⟨x', cr', lo', lc', mo, mc, dq', dc', hh⟩ := two_at HT.out hlt
      have HH : Hid (∀ wr, Wr w.heap.size wA.heap.size wd wr → FlA wr b (off + k * 3) (x', cr', .slice lo' (ms k).length lc') ∧ wr.cell? ⟨g, k * 3 + 2, none⟩ = some (.slice mo (ms k).length mc) ∧ FlA wr qq (k * 3) (x', cr', .slice dq' (ms k).length dc') ∧
        Byt wr (.slice lo' (ms k).length lc') (ms k) ∧ Byt wr (.slice dq' (ms k).length dc') (ms k) ∧
        (0 < (ms k).length → ∃ b' off', mo = some ⟨b', off', none⟩ ∧ ∀ j, j < (ms k).length → ∃ y, wr.cell? ⟨b', off' + j, none⟩ = some (.int .u8 y) ∧ wr.frozen? ⟨b', off' + j, none⟩ = false ∧ ∀ z, Wr w.heap.size wA.heap.size wd (wr.setCell ⟨b', off' + j, none⟩ (.int .u8 z)))) := hh
      have HLB : Hid ((ms k).length ≤ 140737488355328) := HMB.out k hlt
      have LB : ((ms k).length : Int) ≤ 140737488355328 := by have := HLB.out; omega
      obtain ⟨hco, _⟩ := HP.out (by omega)
      obtain ⟨hdq, _⟩ := HQ.out (by omega)
      subst hco
      subst hdq
      clear hh
      go_wp2
      go_loopw [11] (fun j wr => ∃ m : Nat, m ≤ (ms k).length ∧ j = .int .i64 m ∧ Hid (Wr w.heap.size wA.heap.size wd wr)) (fun j _ => (ms k).length - (intOf j).toNat)
      case atStart => exact ⟨0, Nat.zero_le _, rfl, HR⟩
      case round =>
        clear HR
        obtain ⟨m, hm, rfl, HR⟩ := hrel
        obtain ⟨wb, rfl⟩ : ∃ wx, wx = wr := ⟨_, rfl⟩
        have m0 : (0 : Int) ≤ (m : Int) := by omega
        obtain ⟨f1, f2, f3, f4, f5, f6⟩ := HH.out wb HR.out
        by_cases hmt : m < (ms k).length
        · have m1 : (m : Int) < ((ms k).length : Int) := by omega
          obtain ⟨b', off', hmo, hj⟩ := f6 (by omega)
          subst hmo
          obtain ⟨y, cy, fy, hz⟩ := hj m hmt
          have HZ : Hid (∀ z, Wr w.heap.size wA.heap.size wd (wb.setCell ⟨b', off' + m, none⟩ (.int .u8 z))) := hz
          clear f1 f3 f4 f5 f6 hj hz
          go_wp2
          go_roundw
          case rel => exact ⟨m + 1, by omega, by go_num, HZ.out _⟩
          case measure => simp [intOf]; omega
        · have f1a := f1.1
          have f1b := f1.2.1
          have f1c := f1.2.2
          have f3a := f3.1
          have f3b := f3.2.1
          have f3c := f3.2.2
          have TS2 : Hid (∀ m, Calls Try.prog 13 #[.slice dq' (ms k).length dc', .slice lo' (ms k).length lc'] (wb.drewN m) fun e w' => e = .returned (.bool true) ∧ ∃ k, w' = (wb.drewN m).drewN k) := fun m => SS.out _ _ (ms k) _ (byt_drawn f5 m) (byt_drawn f4 m)
          clear f1 f3 f4 f5 f6
          go_wp2
          go_quiet ((go_at_call 13; exact Calls.quiet_of (TS2.out _)))
          have HR2 : Hid (Wr w.heap.size wA.heap.size wd (wb.drewN nq)) := HR.out.drewN nq
          go_wp2
          go_roundw
          case rel => exact ⟨k + 1, by omega, by go_num, HR2⟩
          case measure => simp [intOf]; omega
    · have BBz : Hid (Below w.heap.size w wa) := HBW.out.trans HR.out.1
      go_wp2_with (go_at_call 10; refine (AW.out _).mono ?_; rintro e w99 ⟨rfl, B99⟩)
      go_ret
      exact ⟨rfl, BBz.out.trans (B99.mono BBz.out.size)⟩

set_option maxRecDepth 20000 in
set_option maxHeartbeats 8000000 in
theorem walk_po (v0 : Value) (fs : List (Int × Bool × Value)) (ms : Nat → List Int) (n : Int) (w : World) (h0 : Fls w v0 fs) (hm : Mks w fs ms) (hl : fs.length ≤ 100) (hp : fs.length ≤ 64 ∧ Okp fs ms fs.length) (hf : ∀ s, s < fs.length → (gf fs s).1 ≠ n) :
    Calls Try.prog 7 #[v0, .int .i64 n] w fun e w' => e = .returned (.bool true) ∧ Below w.heap.size w w' := by
  have AW : Hid (∀ w0, Calls Try.prog 10 #[] w0 fun e w' => e = .returned (.bool true) ∧ Below w0.heap.size w0 w') := awake_any
  have SK : Hid (∀ w0, Below w.heap.size w w0 → Calls Try.prog 19 #[v0] w0 fun e w' => e = .returned (.int .i64 0) ∧ Below w0.heap.size w0 w') := fun w0 hb => check_any v0 fs ms w0 (h0.below hb) (hm.below hb) 0 (fun _ _ => rfl) (fun q => absurd hp q)
  have SR : Hid (∀ w0, Below w.heap.size w w0 → Calls Try.prog 20 #[v0] w0 fun e w' => e = .returned (.bool true) ∧ ∃ n, w' = w0.drewN n) := fun w0 hb => rright_any v0 fs ms w0 (h0.below hb) (hm.below hb) true (iff_of_true rfl hp)
  have SC : Hid (∀ w0, Below w.heap.size w w0 → Calls Try.prog 23 #[v0] w0 fun e w' => ∃ v', e = .returned v' ∧ CopyIs w0.heap.size fs ms v' w' ∧ Below w0.heap.size w0 w') := fun w0 hb => copy_any v0 fs ms w0 (h0.below hb) (hm.below hb) hl
  have SD : Hid (∀ v gs w0, Fls w0 v gs → Mks w0 gs ms → gs.length ≤ 100 → Calls Try.prog 23 #[v] w0 fun e w' => ∃ v', e = .returned v' ∧ CopyIs w0.heap.size gs ms v' w' ∧ Below w0.heap.size w0 w') := fun v gs w0 q1 q2 q3 => copy_any v gs ms w0 q1 q2 q3
  have HMB : Hid (∀ t, t < fs.length → (ms t).length ≤ 140737488355328) := fun t ht => (hm t ht).2
  have SS : Hid (∀ va vb (zs : List Int) w0, Byt w0 va zs → Byt w0 vb zs → Calls Try.prog 13 #[va, vb] w0 fun e w' => e = .returned (.bool true) ∧ ∃ n, w' = w0.drewN n) := fun va vb zs w0 q1 q2 => by
    have := same_any w0 va vb zs zs q1 q2
    rwa [decide_eq_true rfl] at this
  have SA : Hid (∀ w0, Below w.heap.size w w0 → Calls Try.prog 21 #[v0, .int .i64 n] w0 fun e w' => e = .returned (.tuple #[fv f0, .bool false]) ∧ Below w0.heap.size w0 w') := fun w0 hb => by
    refine (at_any v0 fs ms n w0 (h0.below hb) (hm.below hb)).mono ?_
    rintro e w' ⟨f, ok, rfl, q1, -, q2⟩
    obtain ⟨rfl, rfl⟩ := q2 hf
    exact ⟨rfl, q1⟩
  have SB : Hid (∀ w0, Below w.heap.size w w0 → Calls Try.prog 22 #[v0, .int .i64 n] w0 fun e w' => e = .returned (.int .i64 (-1)) ∧ ∃ n, w' = w0.drewN n) := fun w0 hb => rat_any v0 fs n w0 (h0.below hb) (-1) (fun s hs => absurd hs.2.1 (hf s hs.1)) (fun _ => rfl)
  have HM : Hid (Mks w fs ms) := hm
  obtain ⟨ao, ca, rfl, c1, c2, a3, a4⟩ := h0
  have H4 : Hid (0 < fs.length → ∃ b off, ao = some ⟨b, off, none⟩ ∧ ∀ t, t < fs.length → FlA w b (off + t * 3) (gf fs t)) := a4
  clear hf
  clear a3 a4 hm hp
  have l1 : (fs.length : Int) ≤ 100 := by omega
  have BB : Hid (Below w.heap.size w w) := Below.refl _ _
  have t0 : (0 : Nat) = 0 := rfl
  go_enter Try.func7, Try.ntmps7
  go_wp2_with (first
    | (have q := t6; refine store_lawV _ f0 w5.heap.size 0 rfl rfl HV6.out.2 rfl ?_; intro w7 E7 A7 T7 B7; have HA7 : Hid (FlA w7 w5.heap.size 0 f0) := A7; have BA : Below w5.heap.size w5 w7 := B6.trans B7; have BB7 : Hid (Below w.heap.size w w7) := BB5.out.trans (BA.mono BB5.out.size); clear A7 T7 E7 B6 B7 BA t6; have t7 : (7 : Nat) = 7 := rfl)
    | (have q := t5; refine new_lawV _ ?_; intro w6 V6 B6 l6; have HV6 : Hid (FlV w6 w5.heap.size f0) := V6; clear V6 t5; have t6 : (6 : Nat) = 6 := rfl)
    | (have q := t4; go_at_call 21; refine (SA.out _ BB3.out).mono ?_; rintro e w5 ⟨rfl, B5⟩; have BB5 : Hid (Below w.heap.size w w5) := BB3.out.trans (B5.mono BB3.out.size); clear t4 B5; have t5 : (5 : Nat) = 5 := rfl)
    | (have q := t2; go_at_call 20; refine (SR.out _ BB2.out).mono ?_; rintro e wx ⟨rfl, n3, hw⟩; obtain rfl := hw.symm; have BB3 : Hid (Below w.heap.size w (w1.drewN (n2 + n3))) := below_drawn BB1.out (n2 + n3); clear t2; have t3 : (3 : Nat) = 3 := rfl; have t4 : (4 : Nat) = 4 := rfl)
    | (have q := t1'; go_at_call 20; refine (SR.out _ BB1.out).mono ?_; rintro e wx ⟨rfl, n2, hw⟩; obtain rfl := hw.symm; have BB2 : Hid (Below w.heap.size w (w1.drewN n2)) := below_drawn BB1.out n2; clear t1'; have t2 : (2 : Nat) = 2 := rfl)
    | (have q := t0; go_at_call 19; refine (SK.out _ BB.out).mono ?_; rintro e w1 ⟨rfl, B1⟩; have BB1 : Hid (Below w.heap.size w w1) := BB.out.trans (B1.mono BB.out.size); clear t0 B1; have t1' : (1 : Nat) = 1 := rfl)
    | (have q := t7; go_at_call 22; refine (SB.out _ BB7.out).mono ?_; rintro e wx ⟨rfl, n8, hw⟩; obtain rfl := hw.symm; clear t7))
  have BB8 : Hid (Below w.heap.size w (w7.drewN n8)) := below_drawn BB7.out n8
  obtain ⟨w8, hw8⟩ : ∃ w8, w8 = w7.drewN n8 := ⟨_, rfl⟩
  have d0 : w8.cell? ⟨w5.heap.size, 0, none⟩ = some (.int .i64 0) := by rw [hw8]; exact HA7.out.1
  have d1 : w8.cell? ⟨w5.heap.size, 1, none⟩ = some (.bool false) := by rw [hw8]; exact HA7.out.2.1
  have d2 : w8.cell? ⟨w5.heap.size, 2, none⟩ = some (.slice none 0 0) := by rw [hw8]; exact HA7.out.2.2
  rw [← hw8] at BB8 ⊢
  clear hw8
  go_quiet (fail)
  have BB9 : Hid (Below w.heap.size w (w8.drewN nq)) := below_drawn BB8.out nq
  obtain ⟨w9, hw9⟩ : ∃ w9, w9 = w8.drewN nq := ⟨_, rfl⟩
  rw [← hw9] at BB9 ⊢
  clear hw9 d0 d1 d2
  have u0 : (0 : Nat) = 0 := rfl
  go_wp2_with (first
    | (have q := u1; go_at_call 23; refine (SD.out _ gs _ HFM.out.1 HFM.out.2 (by have := HGL.out; omega)).mono ?_; rintro e wd ⟨vB, rfl, yB, BD⟩
       obtain ⟨hs, dc, qq, dq, hv, y1, y2, y3, y4, cop2⟩ := yB
       rw [HGL.out] at hv y1 y4 cop2
       subst hv
       have HQ : Hid (0 < fs.length → dq = some ⟨qq, 0, none⟩ ∧ wA.heap.size ≤ qq) := y4
       have HC2 : Hid (Cop wA.heap.size wd qq fs.length fs.length gs hs ms) := cop2
       have HBD : Hid (Below wA.heap.size wA wd) := BD
       clear y3 y4 cop2 BD u1)
    | (have q := u0; go_at_call 23; refine (SC.out _ BB9.out).mono ?_; rintro e wA ⟨vA, rfl, yA, BA⟩
       obtain ⟨gs, cc, g, co, rfl, x1, x2, x3, x4, cop1⟩ := yA
       have HGL : Hid (gs.length = fs.length) := cop1.1
       have HFM : Hid (Fls wA (.slice co fs.length cc) gs ∧ Mks wA gs ms) := cop_fls cop1 x1 x2 x3 (fun h => (x4 h).1) HMB.out
       have HP : Hid (0 < fs.length → co = some ⟨g, 0, none⟩ ∧ w9.heap.size ≤ g) := x4
       have HC1 : Hid (Cop w9.heap.size wA g fs.length fs.length fs gs ms) := cop1
       have HBA : Hid (Below w9.heap.size w9 wA) := BA
       clear x3 x4 cop1 BA u0; have u1 : (1 : Nat) = 1 := rfl))
  obtain ⟨b, off, hao, hll⟩ : ∃ b off, (0 < fs.length → ao = some ⟨b, off, none⟩) ∧ ∀ s, s < fs.length → FlA w b (off + s * 3) (gf fs s) := by
    rcases Nat.eq_zero_or_pos fs.length with q | q
    · exact ⟨0, 0, fun h => by omega, fun s hs => by omega⟩
    · obtain ⟨b, off, e, hc⟩ := H4.out q
      exact ⟨b, off, fun _ => e, hc⟩
  have HAO : Hid (0 < fs.length → ao = some ⟨b, off, none⟩) := hao
  have HLL : Hid (∀ s, s < fs.length → FlA w b (off + s * 3) (gf fs s)) := hll
  clear hao hll
  have HT : Hid (Two w.heap.size wA.heap.size w wd b off g qq fs.length fs gs hs ms) := two_mk rfl HLL.out HM.out BB9.out HBA.out HBD.out HC1.out HC2.out (fun h => (HQ.out h).2)
  have HBW : Hid (Below w.heap.size w wd) := HT.out.1
  clear HC1 HC2 HFM BB9 HBA HBD
  go_loopw [10] (fun i wr => ∃ k : Nat, k ≤ fs.length ∧ i = .int .i64 k ∧ Hid (Wr w.heap.size wA.heap.size wd wr)) (fun i _ => fs.length - (intOf i).toNat)
  case atStart => exact ⟨0, Nat.zero_le _, rfl, Wr.refl _ _ _⟩
  case round =>
    obtain ⟨k, hk, rfl, HR⟩ := hrel
    obtain ⟨wa, rfl⟩ : ∃ wx, wx = wr := ⟨_, rfl⟩
    have k0 : (0 : Int) ≤ (k : Int) := by omega
    by_cases hlt : k < fs.length
    · have k1 : (k : Int) < (fs.length : Int) := by omega
      obtain ⟨x', cr', lo', lc', mo, mc, dq', dc', hh⟩ := two_at HT.out hlt
      have HH : Hid (∀ wr, Wr w.heap.size wA.heap.size wd wr → FlA wr b (off + k * 3) (x', cr', .slice lo' (ms k).length lc') ∧ wr.cell? ⟨g, k * 3 + 2, none⟩ = some (.slice mo (ms k).length mc) ∧ FlA wr qq (k * 3) (x', cr', .slice dq' (ms k).length dc') ∧
        Byt wr (.slice lo' (ms k).length lc') (ms k) ∧ Byt wr (.slice dq' (ms k).length dc') (ms k) ∧
        (0 < (ms k).length → ∃ b' off', mo = some ⟨b', off', none⟩ ∧ ∀ j, j < (ms k).length → ∃ y, wr.cell? ⟨b', off' + j, none⟩ = some (.int .u8 y) ∧ wr.frozen? ⟨b', off' + j, none⟩ = false ∧ ∀ z, Wr w.heap.size wA.heap.size wd (wr.setCell ⟨b', off' + j, none⟩ (.int .u8 z)))) := hh
      have HLB : Hid ((ms k).length ≤ 140737488355328) := HMB.out k hlt
      have LB : ((ms k).length : Int) ≤ 140737488355328 := by have := HLB.out; omega
      obtain ⟨hco, _⟩ := HP.out (by omega)
      obtain ⟨hdq, _⟩ := HQ.out (by omega)
      subst hco
      subst hdq
      have hao := HAO.out (by omega)
      subst hao
      clear hh
      go_wp2
      go_loopw [11] (fun j wr => ∃ m : Nat, m ≤ (ms k).length ∧ j = .int .i64 m ∧ Hid (Wr w.heap.size wA.heap.size wd wr)) (fun j _ => (ms k).length - (intOf j).toNat)
      case atStart => exact ⟨0, Nat.zero_le _, rfl, HR⟩
      case round =>
        clear HR
        obtain ⟨m, hm, rfl, HR⟩ := hrel
        obtain ⟨wb, rfl⟩ : ∃ wx, wx = wr := ⟨_, rfl⟩
        have m0 : (0 : Int) ≤ (m : Int) := by omega
        obtain ⟨f1, f2, f3, f4, f5, f6⟩ := HH.out wb HR.out
        by_cases hmt : m < (ms k).length
        · have m1 : (m : Int) < ((ms k).length : Int) := by omega
          obtain ⟨b', off', hmo, hj⟩ := f6 (by omega)
          subst hmo
          obtain ⟨y, cy, fy, hz⟩ := hj m hmt
          have HZ : Hid (∀ z, Wr w.heap.size wA.heap.size wd (wb.setCell ⟨b', off' + m, none⟩ (.int .u8 z))) := hz
          clear f1 f3 f4 f5 f6 hj hz
          go_wp2
          go_roundw
          case rel => exact ⟨m + 1, by omega, by go_num, HZ.out _⟩
          case measure => simp [intOf]; omega
        · have f1a := f1.1
          have f1b := f1.2.1
          have f1c := f1.2.2
          have f3a := f3.1
          have f3b := f3.2.1
          have f3c := f3.2.2
          have TS2 : Hid (∀ m, Calls Try.prog 13 #[.slice dq' (ms k).length dc', .slice lo' (ms k).length lc'] (wb.drewN m) fun e w' => e = .returned (.bool true) ∧ ∃ k, w' = (wb.drewN m).drewN k) := fun m => SS.out _ _ (ms k) _ (byt_drawn f5 m) (byt_drawn f4 m)
          clear f1 f3 f4 f5 f6
          go_wp2
          go_quiet ((go_at_call 13; exact Calls.quiet_of (TS2.out _)))
          have HR2 : Hid (Wr w.heap.size wA.heap.size wd (wb.drewN nq)) := HR.out.drewN nq
          go_wp2
          go_roundw
          case rel => exact ⟨k + 1, by omega, by go_num, HR2⟩
          case measure => simp [intOf]; omega
    · have BBz : Hid (Below w.heap.size w wa) := HBW.out.trans HR.out.1
      go_wp2_with (go_at_call 10; refine (AW.out _).mono ?_; rintro e w99 ⟨rfl, B99⟩)
      go_ret
      exact ⟨rfl, BBz.out.trans (B99.mono BBz.out.size)⟩

set_option maxRecDepth 20000 in
set_option maxHeartbeats 8000000 in
theorem walk_nf (v0 : Value) (fs : List (Int × Bool × Value)) (ms : Nat → List Int) (n : Int) (w : World) (h0 : Fls w v0 fs) (hm : Mks w fs ms) (hl : fs.length ≤ 100) (hp : ¬ (fs.length ≤ 64 ∧ Okp fs ms fs.length)) (t : Nat) (hf : Fst fs n t) :
    Calls Try.prog 7 #[v0, .int .i64 n] w fun e w' => e = .returned (.bool true) ∧ Below w.heap.size w w' := by
  have AW : Hid (∀ w0, Calls Try.prog 10 #[] w0 fun e w' => e = .returned (.bool true) ∧ Below w0.heap.size w0 w') := awake_any
  have SK : Hid (∀ w0, Below w.heap.size w w0 → Calls Try.prog 19 #[v0] w0 fun e w' => e = .returned (.int .i64 2) ∧ Below w0.heap.size w0 w') := fun w0 hb => check_any v0 fs ms w0 (h0.below hb) (hm.below hb) 2 (fun q1 q2 => absurd ⟨q1, q2⟩ hp) (fun _ => rfl)
  have SR : Hid (∀ w0, Below w.heap.size w w0 → Calls Try.prog 20 #[v0] w0 fun e w' => e = .returned (.bool false) ∧ ∃ n, w' = w0.drewN n) := fun w0 hb => rright_any v0 fs ms w0 (h0.below hb) (hm.below hb) false (iff_of_false Bool.false_ne_true hp)
  have SC : Hid (∀ w0, Below w.heap.size w w0 → Calls Try.prog 23 #[v0] w0 fun e w' => ∃ v', e = .returned v' ∧ CopyIs w0.heap.size fs ms v' w' ∧ Below w0.heap.size w0 w') := fun w0 hb => copy_any v0 fs ms w0 (h0.below hb) (hm.below hb) hl
  have SD : Hid (∀ v gs w0, Fls w0 v gs → Mks w0 gs ms → gs.length ≤ 100 → Calls Try.prog 23 #[v] w0 fun e w' => ∃ v', e = .returned v' ∧ CopyIs w0.heap.size gs ms v' w' ∧ Below w0.heap.size w0 w') := fun v gs w0 q1 q2 q3 => copy_any v gs ms w0 q1 q2 q3
  have HMB : Hid (∀ t, t < fs.length → (ms t).length ≤ 140737488355328) := fun t ht => (hm t ht).2
  have SS : Hid (∀ va vb (zs : List Int) w0, Byt w0 va zs → Byt w0 vb zs → Calls Try.prog 13 #[va, vb] w0 fun e w' => e = .returned (.bool true) ∧ ∃ n, w' = w0.drewN n) := fun va vb zs w0 q1 q2 => by
    have := same_any w0 va vb zs zs q1 q2
    rwa [decide_eq_true rfl] at this
  have ht := hf.1
  obtain ⟨x, cr, lo, lc, hg⟩ := split_flt hm ht
  have hxn : x = n := by have := hf.2.1; rw [hg] at this; exact this
  subst hxn
  have SA : Hid (∀ w0, Below w.heap.size w w0 → Calls Try.prog 21 #[v0, .int .i64 x] w0 fun e w' => ∃ fo fc, e = .returned (.tuple #[fv (x, cr, .slice fo (ms t).length fc), .bool true]) ∧ Byt w' (.slice fo (ms t).length fc) (ms t) ∧ Below w0.heap.size w0 w') := fun w0 hb => by
    refine (at_any v0 fs ms x w0 (h0.below hb) (hm.below hb)).mono ?_
    rintro e w' ⟨f, ok, rfl, q1, q2, -⟩
    obtain ⟨rfl, q3, q4, q5⟩ := q2 t hf
    obtain ⟨fo, fc, q6⟩ := byt_form q5
    rw [hg] at q4
    refine ⟨fo, fc, ?_, by rw [← q6]; exact q5, q1⟩
    rw [show f = (f.1, f.2.1, f.2.2) from rfl, q3, q4, q6]
  have SB : Hid (∀ w0, Below w.heap.size w w0 → Calls Try.prog 22 #[v0, .int .i64 x] w0 fun e w' => e = .returned (.int .i64 (t : Int)) ∧ ∃ n, w' = w0.drewN n) := fun w0 hb => rat_any v0 fs x w0 (h0.below hb) t (fun s hs => by
    rcases Nat.lt_trichotomy s t with q | q | q
    · exact absurd hs.2.1 (hf.2.2 s q)
    · rw [q]
    · exact absurd hf.2.1 (hs.2.2 t q)) (fun q => absurd hf.2.1 (q t hf.1))
  have HYL : Hid (Byt w (.slice lo (ms t).length lc) (ms t)) := by have := (hm t ht).1; rw [hg] at this; exact this
  have t1 : (t : Int) < (fs.length : Int) := by omega
  have tz : (0 : Int) ≤ (t : Int) := by omega
  have HM : Hid (Mks w fs ms) := hm
  obtain ⟨ao, ca, rfl, c1, c2, a3, a4⟩ := h0
  have H4 : Hid (0 < fs.length → ∃ b off, ao = some ⟨b, off, none⟩ ∧ ∀ t, t < fs.length → FlA w b (off + t * 3) (gf fs t)) := a4
  obtain ⟨b, off, rfl, hc⟩ := a4 (by omega)
  have hfa := hc t ht
  rw [hg] at hfa
  have HFT : Hid (FlA w b (off + t * 3) (x, cr, .slice lo (ms t).length lc)) := hfa
  clear hc hfa hf hg ht
  clear a3 a4 hm hp
  have l1 : (fs.length : Int) ≤ 100 := by omega
  have BB : Hid (Below w.heap.size w w) := Below.refl _ _
  have t0 : (0 : Nat) = 0 := rfl
  go_enter Try.func7, Try.ntmps7
  go_wp2_with (first
    | (have q := t6; refine store_lawV _ (x, cr, .slice fo (ms t).length fc) w5.heap.size 0 rfl rfl HV6.out.2 rfl ?_; intro w7 E7 A7 T7 B7; have HA7 : Hid (FlA w7 w5.heap.size 0 (x, cr, .slice fo (ms t).length fc)) := A7; have BA : Below w5.heap.size w5 w7 := B6.trans B7; have BB7 : Hid (Below w.heap.size w w7) := BB5.out.trans (BA.mono BB5.out.size); have Y7 : Hid (Byt w7 (.slice fo (ms t).length fc) (ms t)) := Y5.out.below BA; clear A7 T7 E7 B6 B7 BA t6; have t7 : (7 : Nat) = 7 := rfl)
    | (have q := t5; refine new_lawV _ ?_; intro w6 V6 B6 l6; have HV6 : Hid (FlV w6 w5.heap.size f0) := V6; clear V6 t5; have t6 : (6 : Nat) = 6 := rfl)
    | (have q := t4; go_at_call 21; refine (SA.out _ BB3.out).mono ?_; rintro e w5 ⟨fo, fc, rfl, y5, B5⟩; have Y5 : Hid (Byt w5 (.slice fo (ms t).length fc) (ms t)) := y5; have BB5 : Hid (Below w.heap.size w w5) := BB3.out.trans (B5.mono BB3.out.size); clear t4 B5 y5; have t5 : (5 : Nat) = 5 := rfl)
    | (have q := t3; go_at_call 19; refine (SK.out _ BB3.out).mono ?_; rintro e w4 ⟨rfl, B4⟩; have BB3 : Hid (Below w.heap.size w w4) := BB3.out.trans (B4.mono BB3.out.size); clear t3 B4; have t4 : (4 : Nat) = 4 := rfl)
    | (have q := t2; go_at_call 20; refine (SR.out _ BB2.out).mono ?_; rintro e wx ⟨rfl, n3, hw⟩; obtain rfl := hw.symm; have BB3 : Hid (Below w.heap.size w (w1.drewN (n2 + n3))) := below_drawn BB1.out (n2 + n3); clear t2; have t3 : (3 : Nat) = 3 := rfl)
    | (have q := t1'; go_at_call 20; refine (SR.out _ BB1.out).mono ?_; rintro e wx ⟨rfl, n2, hw⟩; obtain rfl := hw.symm; have BB2 : Hid (Below w.heap.size w (w1.drewN n2)) := below_drawn BB1.out n2; clear t1'; have t2 : (2 : Nat) = 2 := rfl)
    | (have q := t0; go_at_call 19; refine (SK.out _ BB.out).mono ?_; rintro e w1 ⟨rfl, B1⟩; have BB1 : Hid (Below w.heap.size w w1) := BB.out.trans (B1.mono BB.out.size); clear t0 B1; have t1' : (1 : Nat) = 1 := rfl)
    | (have q := t7; go_at_call 22; refine (SB.out _ BB7.out).mono ?_; rintro e wx ⟨rfl, n8, hw⟩; obtain rfl := hw.symm; clear t7))
  have BB8 : Hid (Below w.heap.size w (w7.drewN n8)) := below_drawn BB7.out n8
  obtain ⟨w8, hw8⟩ : ∃ w8, w8 = w7.drewN n8 := ⟨_, rfl⟩
  have d0 : w8.cell? ⟨w5.heap.size, 0, none⟩ = some (.int .i64 x) := by rw [hw8]; exact HA7.out.1
  have d1 : w8.cell? ⟨w5.heap.size, 1, none⟩ = some (.bool cr) := by rw [hw8]; exact HA7.out.2.1
  have d2 : w8.cell? ⟨w5.heap.size, 2, none⟩ = some (.slice fo (ms t).length fc) := by rw [hw8]; exact HA7.out.2.2
  rw [← hw8] at BB8 ⊢
  have HFL := HFT.out.below BB8.out HFT.out.lt
  have e1 : w8.cell? ⟨b, off + t * 3 + 1, none⟩ = some (.bool cr) := HFL.2.1
  have e2 : w8.cell? ⟨b, off + t * 3 + 2, none⟩ = some (.slice lo (ms t).length lc) := HFL.2.2
  have TS : Hid (∀ m, Calls Try.prog 13 #[.slice fo (ms t).length fc, .slice lo (ms t).length lc] (w8.drewN m) fun e w' => e = .returned (.bool true) ∧ ∃ k, w' = (w8.drewN m).drewN k) := fun m => SS.out _ _ (ms t) _ (by rw [hw8]; exact Y7.out) (HYL.out.below (below_drawn BB8.out m))
  clear hw8 HFL
  go_quiet ((go_at_call 13; exact Calls.quiet_of (TS.out _)))
  have BB9 : Hid (Below w.heap.size w (w8.drewN nq)) := below_drawn BB8.out nq
  obtain ⟨w9, hw9⟩ : ∃ w9, w9 = w8.drewN nq := ⟨_, rfl⟩
  rw [← hw9] at BB9 ⊢
  clear hw9 d0 d1 d2
  have u0 : (0 : Nat) = 0 := rfl
  go_wp2_with (first
    | (have q := u1; go_at_call 23; refine (SD.out _ gs _ HFM.out.1 HFM.out.2 (by have := HGL.out; omega)).mono ?_; rintro e wd ⟨vB, rfl, yB, BD⟩
       obtain ⟨hs, dc, qq, dq, hv, y1, y2, y3, y4, cop2⟩ := yB
       rw [HGL.out] at hv y1 y4 cop2
       subst hv
       have HQ : Hid (0 < fs.length → dq = some ⟨qq, 0, none⟩ ∧ wA.heap.size ≤ qq) := y4
       have HC2 : Hid (Cop wA.heap.size wd qq fs.length fs.length gs hs ms) := cop2
       have HBD : Hid (Below wA.heap.size wA wd) := BD
       clear y3 y4 cop2 BD u1)
    | (have q := u0; go_at_call 23; refine (SC.out _ BB9.out).mono ?_; rintro e wA ⟨vA, rfl, yA, BA⟩
       obtain ⟨gs, cc, g, co, rfl, x1, x2, x3, x4, cop1⟩ := yA
       have HGL : Hid (gs.length = fs.length) := cop1.1
       have HFM : Hid (Fls wA (.slice co fs.length cc) gs ∧ Mks wA gs ms) := cop_fls cop1 x1 x2 x3 (fun h => (x4 h).1) HMB.out
       have HP : Hid (0 < fs.length → co = some ⟨g, 0, none⟩ ∧ w9.heap.size ≤ g) := x4
       have HC1 : Hid (Cop w9.heap.size wA g fs.length fs.length fs gs ms) := cop1
       have HBA : Hid (Below w9.heap.size w9 wA) := BA
       clear x3 x4 cop1 BA u0; have u1 : (1 : Nat) = 1 := rfl))
  have HLL : Hid (∀ s, s < fs.length → FlA w b (off + s * 3) (gf fs s)) := fun s hs => by
    obtain ⟨b1, off1, e, hc⟩ := H4.out (by omega)
    cases e
    exact hc s hs
  have HT : Hid (Two w.heap.size wA.heap.size w wd b off g qq fs.length fs gs hs ms) := two_mk rfl HLL.out HM.out BB9.out HBA.out HBD.out HC1.out HC2.out (fun h => (HQ.out h).2)
  have HBW : Hid (Below w.heap.size w wd) := HT.out.1
  clear HC1 HC2 HFM BB9 HBA HBD
  go_loopw [10] (fun i wr => ∃ k : Nat, k ≤ fs.length ∧ i = .int .i64 k ∧ Hid (Wr w.heap.size wA.heap.size wd wr)) (fun i _ => fs.length - (intOf i).toNat)
  case atStart => exact ⟨0, Nat.zero_le _, rfl, Wr.refl _ _ _⟩
  case round =>
    obtain ⟨k, hk, rfl, HR⟩ := hrel
    obtain ⟨wa, rfl⟩ : ∃ wx, wx = wr := ⟨_, rfl⟩
    have k0 : (0 : Int) ≤ (k : Int) := by omega
    by_cases hlt : k < fs.length
    · have k1 : (k : Int) < (fs.length : Int) := by omega
      obtain ⟨x', cr', lo', lc', mo, mc, dq', dc', hh⟩ := two_at HT.out hlt
      have HH : Hid (∀ wr, Wr w.heap.size wA.heap.size wd wr → FlA wr b (off + k * 3) (x', cr', .slice lo' (ms k).length lc') ∧ wr.cell? ⟨g, k * 3 + 2, none⟩ = some (.slice mo (ms k).length mc) ∧ FlA wr qq (k * 3) (x', cr', .slice dq' (ms k).length dc') ∧
        Byt wr (.slice lo' (ms k).length lc') (ms k) ∧ Byt wr (.slice dq' (ms k).length dc') (ms k) ∧
        (0 < (ms k).length → ∃ b' off', mo = some ⟨b', off', none⟩ ∧ ∀ j, j < (ms k).length → ∃ y, wr.cell? ⟨b', off' + j, none⟩ = some (.int .u8 y) ∧ wr.frozen? ⟨b', off' + j, none⟩ = false ∧ ∀ z, Wr w.heap.size wA.heap.size wd (wr.setCell ⟨b', off' + j, none⟩ (.int .u8 z)))) := hh
      have HLB : Hid ((ms k).length ≤ 140737488355328) := HMB.out k hlt
      have LB : ((ms k).length : Int) ≤ 140737488355328 := by have := HLB.out; omega
      obtain ⟨hco, _⟩ := HP.out (by omega)
      obtain ⟨hdq, _⟩ := HQ.out (by omega)
      subst hco
      subst hdq
      clear hh
      go_wp2
      go_loopw [11] (fun j wr => ∃ m : Nat, m ≤ (ms k).length ∧ j = .int .i64 m ∧ Hid (Wr w.heap.size wA.heap.size wd wr)) (fun j _ => (ms k).length - (intOf j).toNat)
      case atStart => exact ⟨0, Nat.zero_le _, rfl, HR⟩
      case round =>
        clear HR
        obtain ⟨m, hm, rfl, HR⟩ := hrel
        obtain ⟨wb, rfl⟩ : ∃ wx, wx = wr := ⟨_, rfl⟩
        have m0 : (0 : Int) ≤ (m : Int) := by omega
        obtain ⟨f1, f2, f3, f4, f5, f6⟩ := HH.out wb HR.out
        by_cases hmt : m < (ms k).length
        · have m1 : (m : Int) < ((ms k).length : Int) := by omega
          obtain ⟨b', off', hmo, hj⟩ := f6 (by omega)
          subst hmo
          obtain ⟨y, cy, fy, hz⟩ := hj m hmt
          have HZ : Hid (∀ z, Wr w.heap.size wA.heap.size wd (wb.setCell ⟨b', off' + m, none⟩ (.int .u8 z))) := hz
          clear f1 f3 f4 f5 f6 hj hz
          go_wp2
          go_roundw
          case rel => exact ⟨m + 1, by omega, by go_num, HZ.out _⟩
          case measure => simp [intOf]; omega
        · have f1a := f1.1
          have f1b := f1.2.1
          have f1c := f1.2.2
          have f3a := f3.1
          have f3b := f3.2.1
          have f3c := f3.2.2
          have TS2 : Hid (∀ m, Calls Try.prog 13 #[.slice dq' (ms k).length dc', .slice lo' (ms k).length lc'] (wb.drewN m) fun e w' => e = .returned (.bool true) ∧ ∃ k, w' = (wb.drewN m).drewN k) := fun m => SS.out _ _ (ms k) _ (byt_drawn f5 m) (byt_drawn f4 m)
          clear f1 f3 f4 f5 f6
          go_wp2
          go_quiet ((go_at_call 13; exact Calls.quiet_of (TS2.out _)))
          have HR2 : Hid (Wr w.heap.size wA.heap.size wd (wb.drewN nq)) := HR.out.drewN nq
          go_wp2
          go_roundw
          case rel => exact ⟨k + 1, by omega, by go_num, HR2⟩
          case measure => simp [intOf]; omega
    · have BBz : Hid (Below w.heap.size w wa) := HBW.out.trans HR.out.1
      go_wp2_with (go_at_call 10; refine (AW.out _).mono ?_; rintro e w99 ⟨rfl, B99⟩)
      go_ret
      exact ⟨rfl, BBz.out.trans (B99.mono BBz.out.size)⟩

set_option maxRecDepth 20000 in
set_option maxHeartbeats 8000000 in
theorem walk_no (v0 : Value) (fs : List (Int × Bool × Value)) (ms : Nat → List Int) (n : Int) (w : World) (h0 : Fls w v0 fs) (hm : Mks w fs ms) (hl : fs.length ≤ 100) (hp : ¬ (fs.length ≤ 64 ∧ Okp fs ms fs.length)) (hf : ∀ s, s < fs.length → (gf fs s).1 ≠ n) :
    Calls Try.prog 7 #[v0, .int .i64 n] w fun e w' => e = .returned (.bool true) ∧ Below w.heap.size w w' := by
  have AW : Hid (∀ w0, Calls Try.prog 10 #[] w0 fun e w' => e = .returned (.bool true) ∧ Below w0.heap.size w0 w') := awake_any
  have SK : Hid (∀ w0, Below w.heap.size w w0 → Calls Try.prog 19 #[v0] w0 fun e w' => e = .returned (.int .i64 2) ∧ Below w0.heap.size w0 w') := fun w0 hb => check_any v0 fs ms w0 (h0.below hb) (hm.below hb) 2 (fun q1 q2 => absurd ⟨q1, q2⟩ hp) (fun _ => rfl)
  have SR : Hid (∀ w0, Below w.heap.size w w0 → Calls Try.prog 20 #[v0] w0 fun e w' => e = .returned (.bool false) ∧ ∃ n, w' = w0.drewN n) := fun w0 hb => rright_any v0 fs ms w0 (h0.below hb) (hm.below hb) false (iff_of_false Bool.false_ne_true hp)
  have SC : Hid (∀ w0, Below w.heap.size w w0 → Calls Try.prog 23 #[v0] w0 fun e w' => ∃ v', e = .returned v' ∧ CopyIs w0.heap.size fs ms v' w' ∧ Below w0.heap.size w0 w') := fun w0 hb => copy_any v0 fs ms w0 (h0.below hb) (hm.below hb) hl
  have SD : Hid (∀ v gs w0, Fls w0 v gs → Mks w0 gs ms → gs.length ≤ 100 → Calls Try.prog 23 #[v] w0 fun e w' => ∃ v', e = .returned v' ∧ CopyIs w0.heap.size gs ms v' w' ∧ Below w0.heap.size w0 w') := fun v gs w0 q1 q2 q3 => copy_any v gs ms w0 q1 q2 q3
  have HMB : Hid (∀ t, t < fs.length → (ms t).length ≤ 140737488355328) := fun t ht => (hm t ht).2
  have SS : Hid (∀ va vb (zs : List Int) w0, Byt w0 va zs → Byt w0 vb zs → Calls Try.prog 13 #[va, vb] w0 fun e w' => e = .returned (.bool true) ∧ ∃ n, w' = w0.drewN n) := fun va vb zs w0 q1 q2 => by
    have := same_any w0 va vb zs zs q1 q2
    rwa [decide_eq_true rfl] at this
  have SA : Hid (∀ w0, Below w.heap.size w w0 → Calls Try.prog 21 #[v0, .int .i64 n] w0 fun e w' => e = .returned (.tuple #[fv f0, .bool false]) ∧ Below w0.heap.size w0 w') := fun w0 hb => by
    refine (at_any v0 fs ms n w0 (h0.below hb) (hm.below hb)).mono ?_
    rintro e w' ⟨f, ok, rfl, q1, -, q2⟩
    obtain ⟨rfl, rfl⟩ := q2 hf
    exact ⟨rfl, q1⟩
  have SB : Hid (∀ w0, Below w.heap.size w w0 → Calls Try.prog 22 #[v0, .int .i64 n] w0 fun e w' => e = .returned (.int .i64 (-1)) ∧ ∃ n, w' = w0.drewN n) := fun w0 hb => rat_any v0 fs n w0 (h0.below hb) (-1) (fun s hs => absurd hs.2.1 (hf s hs.1)) (fun _ => rfl)
  have HM : Hid (Mks w fs ms) := hm
  obtain ⟨ao, ca, rfl, c1, c2, a3, a4⟩ := h0
  have H4 : Hid (0 < fs.length → ∃ b off, ao = some ⟨b, off, none⟩ ∧ ∀ t, t < fs.length → FlA w b (off + t * 3) (gf fs t)) := a4
  clear hf
  clear a3 a4 hm hp
  have l1 : (fs.length : Int) ≤ 100 := by omega
  have BB : Hid (Below w.heap.size w w) := Below.refl _ _
  have t0 : (0 : Nat) = 0 := rfl
  go_enter Try.func7, Try.ntmps7
  go_wp2_with (first
    | (have q := t6; refine store_lawV _ f0 w5.heap.size 0 rfl rfl HV6.out.2 rfl ?_; intro w7 E7 A7 T7 B7; have HA7 : Hid (FlA w7 w5.heap.size 0 f0) := A7; have BA : Below w5.heap.size w5 w7 := B6.trans B7; have BB7 : Hid (Below w.heap.size w w7) := BB5.out.trans (BA.mono BB5.out.size); clear A7 T7 E7 B6 B7 BA t6; have t7 : (7 : Nat) = 7 := rfl)
    | (have q := t5; refine new_lawV _ ?_; intro w6 V6 B6 l6; have HV6 : Hid (FlV w6 w5.heap.size f0) := V6; clear V6 t5; have t6 : (6 : Nat) = 6 := rfl)
    | (have q := t4; go_at_call 21; refine (SA.out _ BB3.out).mono ?_; rintro e w5 ⟨rfl, B5⟩; have BB5 : Hid (Below w.heap.size w w5) := BB3.out.trans (B5.mono BB3.out.size); clear t4 B5; have t5 : (5 : Nat) = 5 := rfl)
    | (have q := t3; go_at_call 19; refine (SK.out _ BB3.out).mono ?_; rintro e w4 ⟨rfl, B4⟩; have BB3 : Hid (Below w.heap.size w w4) := BB3.out.trans (B4.mono BB3.out.size); clear t3 B4; have t4 : (4 : Nat) = 4 := rfl)
    | (have q := t2; go_at_call 20; refine (SR.out _ BB2.out).mono ?_; rintro e wx ⟨rfl, n3, hw⟩; obtain rfl := hw.symm; have BB3 : Hid (Below w.heap.size w (w1.drewN (n2 + n3))) := below_drawn BB1.out (n2 + n3); clear t2; have t3 : (3 : Nat) = 3 := rfl)
    | (have q := t1'; go_at_call 20; refine (SR.out _ BB1.out).mono ?_; rintro e wx ⟨rfl, n2, hw⟩; obtain rfl := hw.symm; have BB2 : Hid (Below w.heap.size w (w1.drewN n2)) := below_drawn BB1.out n2; clear t1'; have t2 : (2 : Nat) = 2 := rfl)
    | (have q := t0; go_at_call 19; refine (SK.out _ BB.out).mono ?_; rintro e w1 ⟨rfl, B1⟩; have BB1 : Hid (Below w.heap.size w w1) := BB.out.trans (B1.mono BB.out.size); clear t0 B1; have t1' : (1 : Nat) = 1 := rfl)
    | (have q := t7; go_at_call 22; refine (SB.out _ BB7.out).mono ?_; rintro e wx ⟨rfl, n8, hw⟩; obtain rfl := hw.symm; clear t7))
  have BB8 : Hid (Below w.heap.size w (w7.drewN n8)) := below_drawn BB7.out n8
  obtain ⟨w8, hw8⟩ : ∃ w8, w8 = w7.drewN n8 := ⟨_, rfl⟩
  have d0 : w8.cell? ⟨w5.heap.size, 0, none⟩ = some (.int .i64 0) := by rw [hw8]; exact HA7.out.1
  have d1 : w8.cell? ⟨w5.heap.size, 1, none⟩ = some (.bool false) := by rw [hw8]; exact HA7.out.2.1
  have d2 : w8.cell? ⟨w5.heap.size, 2, none⟩ = some (.slice none 0 0) := by rw [hw8]; exact HA7.out.2.2
  rw [← hw8] at BB8 ⊢
  clear hw8
  go_quiet (fail)
  have BB9 : Hid (Below w.heap.size w (w8.drewN nq)) := below_drawn BB8.out nq
  obtain ⟨w9, hw9⟩ : ∃ w9, w9 = w8.drewN nq := ⟨_, rfl⟩
  rw [← hw9] at BB9 ⊢
  clear hw9 d0 d1 d2
  have u0 : (0 : Nat) = 0 := rfl
  go_wp2_with (first
    | (have q := u1; go_at_call 23; refine (SD.out _ gs _ HFM.out.1 HFM.out.2 (by have := HGL.out; omega)).mono ?_; rintro e wd ⟨vB, rfl, yB, BD⟩
       obtain ⟨hs, dc, qq, dq, hv, y1, y2, y3, y4, cop2⟩ := yB
       rw [HGL.out] at hv y1 y4 cop2
       subst hv
       have HQ : Hid (0 < fs.length → dq = some ⟨qq, 0, none⟩ ∧ wA.heap.size ≤ qq) := y4
       have HC2 : Hid (Cop wA.heap.size wd qq fs.length fs.length gs hs ms) := cop2
       have HBD : Hid (Below wA.heap.size wA wd) := BD
       clear y3 y4 cop2 BD u1)
    | (have q := u0; go_at_call 23; refine (SC.out _ BB9.out).mono ?_; rintro e wA ⟨vA, rfl, yA, BA⟩
       obtain ⟨gs, cc, g, co, rfl, x1, x2, x3, x4, cop1⟩ := yA
       have HGL : Hid (gs.length = fs.length) := cop1.1
       have HFM : Hid (Fls wA (.slice co fs.length cc) gs ∧ Mks wA gs ms) := cop_fls cop1 x1 x2 x3 (fun h => (x4 h).1) HMB.out
       have HP : Hid (0 < fs.length → co = some ⟨g, 0, none⟩ ∧ w9.heap.size ≤ g) := x4
       have HC1 : Hid (Cop w9.heap.size wA g fs.length fs.length fs gs ms) := cop1
       have HBA : Hid (Below w9.heap.size w9 wA) := BA
       clear x3 x4 cop1 BA u0; have u1 : (1 : Nat) = 1 := rfl))
  obtain ⟨b, off, hao, hll⟩ : ∃ b off, (0 < fs.length → ao = some ⟨b, off, none⟩) ∧ ∀ s, s < fs.length → FlA w b (off + s * 3) (gf fs s) := by
    rcases Nat.eq_zero_or_pos fs.length with q | q
    · exact ⟨0, 0, fun h => by omega, fun s hs => by omega⟩
    · obtain ⟨b, off, e, hc⟩ := H4.out q
      exact ⟨b, off, fun _ => e, hc⟩
  have HAO : Hid (0 < fs.length → ao = some ⟨b, off, none⟩) := hao
  have HLL : Hid (∀ s, s < fs.length → FlA w b (off + s * 3) (gf fs s)) := hll
  clear hao hll
  have HT : Hid (Two w.heap.size wA.heap.size w wd b off g qq fs.length fs gs hs ms) := two_mk rfl HLL.out HM.out BB9.out HBA.out HBD.out HC1.out HC2.out (fun h => (HQ.out h).2)
  have HBW : Hid (Below w.heap.size w wd) := HT.out.1
  clear HC1 HC2 HFM BB9 HBA HBD
  go_loopw [10] (fun i wr => ∃ k : Nat, k ≤ fs.length ∧ i = .int .i64 k ∧ Hid (Wr w.heap.size wA.heap.size wd wr)) (fun i _ => fs.length - (intOf i).toNat)
  case atStart => exact ⟨0, Nat.zero_le _, rfl, Wr.refl _ _ _⟩
  case round =>
    obtain ⟨k, hk, rfl, HR⟩ := hrel
    obtain ⟨wa, rfl⟩ : ∃ wx, wx = wr := ⟨_, rfl⟩
    have k0 : (0 : Int) ≤ (k : Int) := by omega
    by_cases hlt : k < fs.length
    · have k1 : (k : Int) < (fs.length : Int) := by omega
      obtain ⟨x', cr', lo', lc', mo, mc, dq', dc', hh⟩ := two_at HT.out hlt
      have HH : Hid (∀ wr, Wr w.heap.size wA.heap.size wd wr → FlA wr b (off + k * 3) (x', cr', .slice lo' (ms k).length lc') ∧ wr.cell? ⟨g, k * 3 + 2, none⟩ = some (.slice mo (ms k).length mc) ∧ FlA wr qq (k * 3) (x', cr', .slice dq' (ms k).length dc') ∧
        Byt wr (.slice lo' (ms k).length lc') (ms k) ∧ Byt wr (.slice dq' (ms k).length dc') (ms k) ∧
        (0 < (ms k).length → ∃ b' off', mo = some ⟨b', off', none⟩ ∧ ∀ j, j < (ms k).length → ∃ y, wr.cell? ⟨b', off' + j, none⟩ = some (.int .u8 y) ∧ wr.frozen? ⟨b', off' + j, none⟩ = false ∧ ∀ z, Wr w.heap.size wA.heap.size wd (wr.setCell ⟨b', off' + j, none⟩ (.int .u8 z)))) := hh
      have HLB : Hid ((ms k).length ≤ 140737488355328) := HMB.out k hlt
      have LB : ((ms k).length : Int) ≤ 140737488355328 := by have := HLB.out; omega
      obtain ⟨hco, _⟩ := HP.out (by omega)
      obtain ⟨hdq, _⟩ := HQ.out (by omega)
      subst hco
      subst hdq
      have hao := HAO.out (by omega)
      subst hao
      clear hh
      go_wp2
      go_loopw [11] (fun j wr => ∃ m : Nat, m ≤ (ms k).length ∧ j = .int .i64 m ∧ Hid (Wr w.heap.size wA.heap.size wd wr)) (fun j _ => (ms k).length - (intOf j).toNat)
      case atStart => exact ⟨0, Nat.zero_le _, rfl, HR⟩
      case round =>
        clear HR
        obtain ⟨m, hm, rfl, HR⟩ := hrel
        obtain ⟨wb, rfl⟩ : ∃ wx, wx = wr := ⟨_, rfl⟩
        have m0 : (0 : Int) ≤ (m : Int) := by omega
        obtain ⟨f1, f2, f3, f4, f5, f6⟩ := HH.out wb HR.out
        by_cases hmt : m < (ms k).length
        · have m1 : (m : Int) < ((ms k).length : Int) := by omega
          obtain ⟨b', off', hmo, hj⟩ := f6 (by omega)
          subst hmo
          obtain ⟨y, cy, fy, hz⟩ := hj m hmt
          have HZ : Hid (∀ z, Wr w.heap.size wA.heap.size wd (wb.setCell ⟨b', off' + m, none⟩ (.int .u8 z))) := hz
          clear f1 f3 f4 f5 f6 hj hz
          go_wp2
          go_roundw
          case rel => exact ⟨m + 1, by omega, by go_num, HZ.out _⟩
          case measure => simp [intOf]; omega
        · have f1a := f1.1
          have f1b := f1.2.1
          have f1c := f1.2.2
          have f3a := f3.1
          have f3b := f3.2.1
          have f3c := f3.2.2
          have TS2 : Hid (∀ m, Calls Try.prog 13 #[.slice dq' (ms k).length dc', .slice lo' (ms k).length lc'] (wb.drewN m) fun e w' => e = .returned (.bool true) ∧ ∃ k, w' = (wb.drewN m).drewN k) := fun m => SS.out _ _ (ms k) _ (byt_drawn f5 m) (byt_drawn f4 m)
          clear f1 f3 f4 f5 f6
          go_wp2
          go_quiet ((go_at_call 13; exact Calls.quiet_of (TS2.out _)))
          have HR2 : Hid (Wr w.heap.size wA.heap.size wd (wb.drewN nq)) := HR.out.drewN nq
          go_wp2
          go_roundw
          case rel => exact ⟨k + 1, by omega, by go_num, HR2⟩
          case measure => simp [intOf]; omega
    · have BBz : Hid (Below w.heap.size w wa) := HBW.out.trans HR.out.1
      go_wp2_with (go_at_call 10; refine (AW.out _).mono ?_; rintro e w99 ⟨rfl, B99⟩)
      go_ret
      exact ⟨rfl, BBz.out.trans (B99.mono BBz.out.size)⟩

theorem walk (v0 : Value) (fs : List (Int × Bool × Value)) (ms : Nat → List Int) (n : Int) (w : World) (h0 : Fls w v0 fs) (hm : Mks w fs ms) (_hi : -9223372036854775808 ≤ n ∧ n ≤ 9223372036854775807) :
    Calls Try.prog 7 #[v0, .int .i64 n] w fun e w' => e = .returned (.bool true) ∧ Below w.heap.size w w' := by
  by_cases hl : fs.length ≤ 100
  · by_cases hp : fs.length ≤ 64 ∧ Okp fs ms fs.length
    · rcases fst_or fs n with ⟨t, hf⟩ | hf
      · exact walk_pf v0 fs ms n w h0 hm hl hp t hf
      · exact walk_po v0 fs ms n w h0 hm hl hp hf
    · rcases fst_or fs n with ⟨t, hf⟩ | hf
      · exact walk_nf v0 fs ms n w h0 hm hl hp t hf
      · exact walk_no v0 fs ms n w h0 hm hl hp hf
  · exact walk_l v0 n fs w h0 (by omega)

theorem params : ∀ t ∈ Try.f7.params.toList, Try.prog.readableRec t = true ∧ t < Try.prog.types.size := by
  rw [Try.params7]
  intro t ht
  simp at ht
  rcases ht with rfl | rfl
  · exact ⟨by kernel_rfl, of_decide_eq_true (by kernel_rfl)⟩
  · exact ⟨by kernel_rfl, of_decide_eq_true (by kernel_rfl)⟩

theorem contract (H : Type) (enc : TypeId × Value → H) (W : World) (base : Nat) (args : Array Value) (ds gs : List (DataW H)) (before : List MemPlace)
    (hval : ∀ (j : Nat) t v, Try.f7.params[j]? = some t → args[j]? = some v → Value.okWide Try.prog W .any base t v)
    (hW : DataW.Whole enc Try.prog Try.f7.params.toList Rows.faultPlansSpec.vars false W args.toList ds gs before)
    (hsz : (DataW.weightsEach Try.prog (Try.f7.params.toList ++ (OpenSpec.ofChange Rows.faultPlansSpec).bare.plain.varTypes Try.prog) (ds ++ gs)).all (· ≤ reachBytes) = true) :
    Calls Try.prog 7 args W fun e W' => ∃ v, e = .returned v ∧ Rows.faultPlansSpec.post enc Try.prog Try.f7 false true false false W args v W' := by
  have hW' := hW
  obtain ⟨p, q, hA0, hV, rfl, hfz, hnd⟩ := hW
  have hA : DataW.TrodAll enc Try.prog W 0 (fun _ => true) true Try.f7.params.toList args.toList ds p := hA0
  rw [Try.params7] at hA hval
  obtain ⟨v0, v1, d0, d1, p0, p1, rfl, rfl, rfl, h0, h1⟩ := trodAll_two hA
  obtain ⟨rfl, rfl⟩ := trodVars_none hV
  obtain ⟨xs0, ms0, b0, c0⟩ := faults_open (hval 0 33 v0 rfl rfl) h0 (fun n hn => by have := List.all_eq_true.1 hsz n (DataW.weights_mem_each (j := 0) (t := 33) (d := d0) (by rw [Try.params7]; rfl) rfl n hn); simpa using this)
  obtain ⟨x1, rfl, rfl, rfl, w1⟩ := open_int Try.underlying3 (hval 1 3 v1 rfl rfl) h1
  clear hA0
  refine (walk v0 xs0 ms0 x1 W b0 c0 (bounds_i64 w1)).mono fun e W' ⟨he, hg⟩ => ?_
  subst he
  exact ⟨_, rfl, post_law rfl (by kernel_rfl) params rfl rfl rfl hW' hg⟩

theorem laid_met (os : Os) : laidMet Try.prog Rows.faultPlansRow.laid ((World.holding Try.prog os ⟨#[], #[], []⟩).forCall (fun _ _ => 0) ⟨#[], #[.slice none 0 0, .int .i64 0], []⟩).memory :=
  laidMet_of_run' 8 (by kernel_rfl) (by kernel_rfl)
theorem reads (os : Os) {H : Type} (enc : TypeId × Value → H) : ∃ places, DataW.whole enc Try.prog ((World.holding Try.prog os ⟨#[], #[], []⟩).forCall (fun _ _ => 0) ⟨#[], #[.slice none 0 0, .int .i64 0], []⟩).memory Try.f7.params.toList Rows.faultPlansSpec.vars false #[Value.slice none 0 0, Value.int .i64 0].toList 8 = some ([.nil, .lit (.int .i64 0)], [], places) :=
  ⟨[], by kernel_rfl⟩

set_option maxRecDepth 100000 in
theorem lifted (os : Os) (started : os.Started) (H : Type) (enc : TypeId × Value → H) (F : Stop.Interp) :
    ReturnsInHanded {} Try.checked os 7 .any ((OpenSpec.ofChange Rows.faultPlansSpec).preRow enc Try.prog Try.f7 Rows.faultPlansRow.domain false Rows.faultPlansRow.laid) (((OpenSpec.ofChange Rows.faultPlansSpec).at F).post enc Try.prog Try.f7 false true false false) := by
  obtain ⟨places, hx⟩ := reads os enc
  refine returnsInHanded_of_row (C := Try.checked) (s := OpenSpec.ofChange Rows.faultPlansSpec) own started (by kernel_rfl) Try.func7
    (witness_row_at (enc := enc) (C := Try.checked) false (World.holding Try.prog os ⟨#[], #[], []⟩) #[.slice none 0 0, .int .i64 0] rfl (by kernel_rfl) (by kernel_rfl) (by kernel_rfl)
      (OpenSpec.preRow_of_cond 8 hx (by kernel_rfl) (fun k hk => by cases hk) (by kernel_rfl) (laid_met os))) ?_
  intro W base args ds gs before hval hW _ _ hsz _ _ _
  exact contract H enc W base args ds gs before hval hW hsz

theorem said : Rows.FaultPlansSaid :=
  OpenClaim.holds_of_cond 7 Try.f7 rfl rfl rfl rfl rfl rfl rfl ⟨rfl, rfl, rfl, rfl, rfl⟩ rfl rfl rfl rfl rfl (by kernel_rfl) Try.func7 (by kernel_rfl)
    (of_decide_eq_true (by kernel_rfl)) (by unfold Func.isWrapper; first | (rw [if_pos (by decide +kernel)]; kernel_rfl) | (rw [if_neg (by decide +kernel)]; exact ⟨rfl, rfl⟩))
    (fun os started H enc _ F => by rw [OpenClaim.pre_eq_preRow]; exact lifted os started H enc F)
end Go.Proofs.Ytkpnmandpmfhjaa.faultPlans

namespace Go.Proofs.Ytkpnmandpmfhjaa
theorem faultPlans_said : Rows.FaultPlansSaid := faultPlans.said
#print axioms faultPlans_said
end Go.Proofs.Ytkpnmandpmfhjaa
