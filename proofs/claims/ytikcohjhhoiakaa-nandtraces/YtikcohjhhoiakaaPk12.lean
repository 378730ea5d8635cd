/- Texts put together. -/
import Derived.Test.YtikcohjhhoiakaaPk04
import Derived.Test.YtikcohjhhoiakaaPk11
import Derived.Test.YtikcohjhhoiakaaPk01
set_option maxHeartbeats 8000000
namespace Go.Proofs.Ytikcohjhhoiakaa.fa
open Go.RowKit
set_option maxRecDepth 20000
theorem rand_own (va vb : Value) (xs ys : List Int) (w : World) (ha : Byt w va xs) (hb : Byt w vb ys) (hl : xs.length = ys.length) (hmax : xs.length ≤ 1048576) :
  Calls Try.prog 27 #[va, vb] w fun e w' => ∃ v, e = .returned v ∧ Own w.heap.size w' v (andl xs ys) ∧ Below w.heap.size w w' := by
 obtain ⟨ao, ca, rfl, ha1, ha2, ha3, -, ha5⟩ := ha
 obtain ⟨bo, cb, rfl, hb1, hb2, hb3, -, hb5⟩ := hb
 have HL := hdH (hl)
 have HA5 := hdH (ha5)
 have HB5 : Hid (0 < xs.length → ∃ b off, bo = some ⟨b, off, none⟩ ∧ ∀ t, t < xs.length → w.cell? ⟨b, off + t, none⟩ = some (.int .u8 (gb ys t))) := by
  rw [hl]; exact hb5
 have HA := hdH (ha3)
 have HB := hdH (hb3)
 rw [← hl] at hb1 ⊢
 clear hb5 ha5 ha3 hb3 hl
 have HZ : Hid ((andl xs ys).length = xs.length) := andl_len xs ys
 go_enter Try.func27, Try.ntmps27
 go_wp2
 go_loopw [5, 6] (fun v i wr => ∃ k : Nat, k ≤ xs.length ∧ i = .int .i64 k ∧ Own w.heap.size wr v ((andl xs ys).take k) ∧ Below w.heap.size w wr) (fun _ i _ => xs.length - (intOf i).toNat)
 case atStart => exact ⟨0, Nat.zero_le _, rfl, Own.empty w (Nat.le_refl _), (Below.refl _ _).alloc (Nat.le_refl _) _⟩
 case round =>
  obtain ⟨k, hk, rfl, hown, hbel⟩ := hrel
  have hsz := hbel.size
  by_cases hlt' : k < xs.length
  ·obtain ⟨b, off, rfl, hca⟩ := HA5.out (by omega)
   obtain ⟨b', off', rfl, hcb⟩ := HB5.out (by omega)
   have n1 := World.block_lt_of_cell? w _ (hca k hlt')
   have n2 := World.block_lt_of_cell? w _ (hcb k hlt')
   have c1 : wr.cell? ⟨b, off + k, none⟩ = some (.int .u8 (gb xs k)) := (hbel.cell n1).trans (hca k hlt')
   have c2 : wr.cell? ⟨b', off' + k, none⟩ = some (.int .u8 (gb ys k)) := (hbel.cell n2).trans (hcb k hlt')
   have lk : (k : Int) < (xs.length : Int) := by omega
   have lk0 : (0 : Int) ≤ (k : Int) := by omega
   have a1 := HA.out k
   have a2 := HB.out k
   have hx : bits .and .u8 (gb xs k) (gb ys k) = gb (andl xs ys) k := by rw [andl_gb xs ys k hlt']; exact u8_and _ _ a1.1 (by omega) a2.1 (by omega)
   have SN : Hid ((andl xs ys).take (k + 1) = (andl xs ys).take k ++ [gb (andl xs ys) k]) := andl_take xs ys k hlt'
   have HLEN : Hid (((andl xs ys).take k).length ≤ 1099511627776) := by show _ ≤ _; simp; omega
   clear hca hcb a1 a2
   go_wp2
   go_region_held3 (fun w' => w'.cell? ⟨b, off + k, none⟩ = some (.int .u8 (gb xs k)) ∧ w'.cell? ⟨b', off' + k, none⟩ = some (.int .u8 (gb ys k)))
    (first
     | go_keep
     | (exact ⟨by rw [hbel'.cell n1]; simpa using c1, by rw [hbel'.cell n2]; simpa using c2⟩))
    ((refine step_push1 wr.drew rfl (.tmp 14) (.tmp 24) rfl w.heap.size (by simpa using hsz) _ _ (gb (andl xs ys) k) rfl rfl hown HLEN.out ?_; intro v2 w2 hown' hbel'))
   go_wp2
   go_roundw
   case rel => exact ⟨k + 1, by omega, by go_num, by rw [SN.out]; exact hown', hbel.drew.trans hbel'⟩
   case measure => simp [intOf]; omega
  ·have hks : k = xs.length := by omega
   have e : Hid ((andl xs ys).take k = andl xs ys) := List.take_of_length_le (by rw [HZ.out]; omega)
   rw [e.out] at hown
   go_wp2
   go_ret
   exact ⟨_, rfl, hown, hbel⟩
theorem rfill_own (x n : Int) (w : World) :
  Calls Try.prog 63 #[.int .u8 x, .int .i64 n] w fun e w' => ∃ v, e = .returned v ∧ Own w.heap.size w' v (List.replicate (clamp n 65536) x) ∧ Below w.heap.size w w' := by
 have hs : ((clamp n 65536 : Nat) : Int) = min (max n 0) 65536 := by unfold clamp; omega
 generalize hsd : clamp n 65536 = s at hs
 have HS := hdH (hs)
 have hs1 : s ≤ 65536 := by omega
 clear hsd hs
 go_enter Try.func63, Try.ntmps63
 go_wp2
 go_loopw [5, 6] (fun v i wr => ∃ k : Nat, k ≤ s ∧ i = .int .i64 k ∧ Own w.heap.size wr v (List.replicate k x) ∧ Below w.heap.size w wr) (fun _ i _ => s - (intOf i).toNat)
 case atStart => exact ⟨0, Nat.zero_le _, rfl, Own.empty w (Nat.le_refl _), (Below.refl _ _).alloc (Nat.le_refl _) _⟩
 case round =>
  obtain ⟨k, hk, rfl, hown, hbel⟩ := hrel
  have hsz := hbel.size
  by_cases hlt : k < s
  ·have h1 : (k : Int) < n := by have := HS.out; omega
   have h2 : (k : Int) < 65536 := by omega
   go_wp2_with (at_builtin; refine push_law wr rfl (.tmp 17) (.tmp 19) rfl w.heap.size (by omega) _ _ x rfl rfl hown (by simp; omega) ?_; intro v' w1 hown' hbel')
   rw [← List.replicate_succ'] at hown'
   go_roundw
   case rel => exact ⟨k + 1, by omega, by go_num, hown', hbel.trans hbel'⟩
   case measure => simp [intOf]; omega
  ·have hks : k = s := by omega
   subst hks
   by_cases h1 : (k : Int) < n
   ·have h2 : ¬ (k : Int) < 65536 := by have := HS.out; omega
    go_wp2
    go_ret
    exact ⟨_, rfl, hown, hbel⟩
   ·go_wp2
    go_ret
    exact ⟨_, rfl, hown, hbel⟩
theorem rprogO_false (va vb vm : Value) (xs ys m : List Int) (w : World) (ha : Byt w va xs) (hb : Byt w vb ys) (hm : Byt w vm m) (hl : xs.length = ys.length) (hmax : xs.length ≤ 1048576) :
  Calls Try.prog 65 #[va, vb, vm, .bool false] w fun e w' => ∃ v, e = .returned v ∧ Own w.heap.size w' v (ofb xs.length (prg xs ys m false (8 * xs.length))) ∧ Below w.heap.size w w' := by
 have SA : Hid (∀ (i : Nat) w0, Below w.heap.size w w0 → i < 8 * xs.length → Calls Try.prog 86 #[va, .int .i64 i] w0 fun e w' => e = .returned (.bool (hs xs i)) ∧ ∃ n, w' = w0.drewN n) := fun i w0 h hi => rhas_any va xs i w0 (ha.below h) hi hmax
 have SB : Hid (∀ (i : Nat) w0, Below w.heap.size w w0 → i < 8 * xs.length → Calls Try.prog 86 #[vb, .int .i64 i] w0 fun e w' => e = .returned (.bool (hs ys i)) ∧ ∃ n, w' = w0.drewN n) := fun i w0 h hi => rhas_any vb ys i w0 (hb.below h) (by omega) (by omega)
 have SM : Hid (∀ (i : Nat) w0, Below w.heap.size w w0 → i < 8 * xs.length → Calls Try.prog 87 #[vm, .int .i64 i] w0 fun e w' => e = .returned (.bool (mk m i)) ∧ ∃ n, w' = w0.drewN n) := fun i w0 h hi => by
  have := rbit_any vm m i w0 (hm.below h) (by omega)
  rwa [bo_nat] at this
 have SP : Hid (∀ (t : Nat) w0, t < 8 → Calls Try.prog 88 #[.int .i64 t] w0 fun e w' => e = .returned (.int .i64 ((2 ^ t : Nat) : Int)) ∧ w' = w0) := fun t w0 ht => power_any t w0 ht
 have HX : Hid (AllB xs) := ha.all
 have HV : Hid (Byt (w.alloc (.cells #[] 5)) va xs) := ha.below ((Below.refl _ _).alloc (Nat.le_refl _) _)
 have HO : Hid (Own w.heap.size (w.alloc (.cells #[] 5)) (.slice (some ⟨w.heap.size, 0, none⟩) 0 0) []) := Own.empty w (Nat.le_refl _)
 have B0 : Below w.heap.size w (w.alloc (.cells #[] 5)) := (Below.refl _ _).alloc (Nat.le_refl _) _
 have z0 := B0.size
 obtain ⟨ao, ca, rfl, ha1, ha2, -⟩ := ha
 clear hb hm
 obtain ⟨len, hlen⟩ : ∃ len, xs.length = len := ⟨_, rfl⟩
 have HLEN : Hid (xs.length = len) := hlen
 rw [hlen] at SA SB SM HV hmax ha1 ⊢
 clear hlen hl
 go_enter Try.func65, Try.ntmps65
 go_wp2_with (refine pushs_law _ rfl (.tmp 13) (.tmp 14) rfl w.heap.size z0 _ _ [] xs rfl rfl HO.out HV.out (by simp only [List.length_nil]; have := HLEN.out; omega) ?_; intro v1 w1 O1 b1; rw [List.nil_append] at O1; have HO1 := hdH (O1); clear O1; have C1 : Below w.heap.size w w1 := B0.trans b1; clear b1 B0)
 go_loopw [10, 11] (fun l i wr => ∃ k n : Nat, k ≤ 8 * len ∧ i = .int .i64 k ∧ l = .int .i64 ((lst xs ys k : Nat) - 1) ∧ wr = w1.drewN n) (fun _ i _ => 8 * len - (intOf i).toNat)
 case atStart => exact ⟨0, 0, Nat.zero_le _, rfl, rfl, rfl⟩
 case round =>
  obtain ⟨k, n, hk, rfl, rfl, rfl⟩ := hrel
  have HL1 : Hid (lst xs ys (k + 1) = if due xs ys k then k + 1 else lst xs ys k) := lst_succ xs ys k
  have k0 : (0 : Int) ≤ (k : Int) := by omega
  by_cases hlt : k < 8 * len
  ·have k1 : (k : Int) < 8 * (len : Int) := by omega
   have TA : Hid (∀ n, Calls Try.prog 86 #[.slice ao len ca, .int .i64 k] (w1.drewN n) fun e w' => e = .returned (.bool (hs xs k)) ∧ ∃ m, w' = (w1.drewN n).drewN m) := fun n => SA.out k _ (below_drawn C1 n) hlt
   have TB : Hid (∀ n, Calls Try.prog 86 #[vb, .int .i64 k] (w1.drewN n) fun e w' => e = .returned (.bool (hs ys k)) ∧ ∃ m, w' = (w1.drewN n).drewN m) := fun n => SB.out k _ (below_drawn C1 n) hlt
   have t0 := tR
   unfold due at HL1
   generalize lst xs ys k = l0 at *
   cases hx : hs xs k
   ·rw [hx] at TA HL1
    have E1 : Hid (lst xs ys (k + 1) = l0) := by show _ = _; rw [HL1.out]; simp
    clear hx HL1
    go_wp2_with (have q0 := t0; go_at_call 86; refine (TA.out _).mono ?_; rintro e wx ⟨rfl, n2, hw⟩; obtain rfl := hw.symm; clear t0)
    go_roundw
    case rel => exact ⟨k + 1, n + n2, by omega, by go_num, by rw [E1.out], rfl⟩
    case measure => simp [intOf]; omega
   ·cases hy : hs ys k
    ·rw [hx] at TA HL1
     rw [hy] at TB HL1
     have E1 : Hid (lst xs ys (k + 1) = k + 1) := by show _ = _; rw [HL1.out]; simp
     clear hx hy HL1
     go_wp2_with (first
      | (have q1 := t1; go_at_call 86; refine (TB.out _).mono ?_; rintro e wx ⟨rfl, n3, hw⟩; obtain rfl := hw.symm; clear t1)
      | (have q0 := t0; go_at_call 86; refine (TA.out _).mono ?_; rintro e wx ⟨rfl, n2, hw⟩; obtain rfl := hw.symm; clear t0; have t1 := tR))
     go_roundw
     case rel => exact ⟨k + 1, n + n2 + n3, by omega, by go_num, by rw [E1.out]; go_num, rfl⟩
     case measure => simp [intOf]; omega
    ·rw [hx] at TA HL1
     rw [hy] at TB HL1
     have E1 : Hid (lst xs ys (k + 1) = l0) := by show _ = _; rw [HL1.out]; simp
     clear hx hy HL1
     go_wp2_with (first
      | (have q1 := t1; go_at_call 86; refine (TB.out _).mono ?_; rintro e wx ⟨rfl, n3, hw⟩; obtain rfl := hw.symm; clear t1)
      | (have q0 := t0; go_at_call 86; refine (TA.out _).mono ?_; rintro e wx ⟨rfl, n2, hw⟩; obtain rfl := hw.symm; clear t0; have t1 := tR))
     go_roundw
     case rel => exact ⟨k + 1, n + n2 + n3, by omega, by go_num, by rw [E1.out], rfl⟩
     case measure => simp [intOf]; omega
  ·have hks : k = 8 * len := by omega
   have HLK : Hid (lst xs ys (8 * len) = lst xs ys k) := by show _ = _; rw [hks]
   obtain ⟨kk, rfl⟩ : ∃ kx, kx = k := ⟨_, rfl⟩
   clear HL1 hks
   obtain ⟨L, hL⟩ : ∃ L, lst xs ys kk = L := ⟨_, rfl⟩
   have HLL := hdH (HLK.out.trans hL)
   rw [hL]
   clear hL
   obtain ⟨F, hF⟩ : ∃ F, prg xs ys m false (8 * len) = F := ⟨_, rfl⟩
   have HF := hdH (hF)
   have HFK : Hid (∀ k, F k = (hs xs k && !(due xs ys k && mk m k && !(false && (k + 1 == L))))) := fun k => by rw [← hF, ← HLL.out]; rfl
   clear hF
   have HS : Hid (Own w.heap.size (w1.drewN n) v1 (ofb len (upb F (hs xs) 0))) := by
    show Own _ _ _ _
    rw [upb_zero, ← HLEN.out, ofb_hs xs HX.out (hs xs) (fun _ _ => rfl)]
    exact HO1.out
   have C2 : Hid (Below w.heap.size w (w1.drewN n)) := below_drawn C1 n
   have l0 : (0 : Int) ≤ (L : Int) := by omega
   have l1 : (L : Int) ≤ 8 * (len : Int) := by have := lst_le xs ys (8 * len); have := HLL.out; omega
   clear HO1 C1 HV HO z0
   go_wp2
   go_loopw [12] (fun i wr => ∃ k : Nat, k ≤ 8 * len ∧ i = .int .i64 k ∧ Hid (Own w.heap.size wr v1 (ofb len (upb F (hs xs) k))) ∧ Hid (Below w.heap.size w wr)) (fun i _ => 8 * len - (intOf i).toNat)
   case atStart => exact ⟨0, Nat.zero_le _, rfl, HS, C2⟩
   case round =>
    clear HS C2
    obtain ⟨k, hk, rfl, HW, HB⟩ := hrel
    obtain ⟨wa, rfl⟩ : ∃ wx, wx = wr := ⟨_, rfl⟩
    have k0 : (0 : Int) ≤ (k : Int) := by omega
    by_cases hlt : k < 8 * len
    ·have k1 : (k : Int) < 8 * (len : Int) := by omega
     have TB : Hid (∀ n, Calls Try.prog 86 #[vb, .int .i64 k] (wa.drewN n) fun e w' => e = .returned (.bool (hs ys k)) ∧ ∃ m, w' = (wa.drewN n).drewN m) := fun n => SB.out k _ (below_drawn HB.out n) hlt
     have TM : Hid (∀ n, Calls Try.prog 87 #[vm, .int .i64 k] (wa.drewN n) fun e w' => e = .returned (.bool (mk m k)) ∧ ∃ m, w' = (wa.drewN n).drewN m) := fun n => SM.out k _ (below_drawn HB.out n) hlt
     have FK : Hid (F k = (hs xs k && !(due xs ys k && mk m k && !(false && (k + 1 == L))))) := HFK.out k
     have US : Hid (F k = hs xs k → ofb len (upb F (hs xs) (k + 1)) = ofb len (upb F (hs xs) k)) := upb_same F (hs xs) len k
     have UA : Hid (upb F (hs xs) k k = hs xs k ∧ upb F (hs xs) (k + 1) k = F k ∧ ∀ i, i ≠ k → upb F (hs xs) k i = upb F (hs xs) (k + 1) i) := upb_at F (hs xs) k
     have T0 : Hid (Calls Try.prog 86 #[.slice ao len ca, .int .i64 k] wa fun e w' => e = .returned (.bool (hs xs k)) ∧ ∃ m, w' = wa.drewN m) := SA.out k _ HB.out hlt
     have t0 := tR
     unfold due at FK
     cases hx : hs xs k
     ·rw [hx] at T0 FK US
      have E1 : Hid (ofb len (upb F (hs xs) (k + 1)) = ofb len (upb F (hs xs) k)) := US.out (by rw [FK.out]; simp)
      clear hx
      go_wp2_with (have q0 := t0; go_at_call 86; refine T0.out.mono ?_; rintro e wx ⟨rfl, n2, hw⟩; obtain rfl := hw.symm; clear t0)
      go_roundw
      case rel => exact ⟨k + 1, by omega, by go_num, by rw [E1.out]; exact HW.out, below_drawn HB.out n2⟩
      case measure => simp [intOf]; omega
     ·cases hy : hs ys k
      ·cases hm : mk m k
       ·rw [hx] at T0 FK US
        rw [hy] at TB FK
        rw [hm] at TM FK
        have E1 : Hid (ofb len (upb F (hs xs) (k + 1)) = ofb len (upb F (hs xs) k)) := US.out (by rw [FK.out]; simp)
        clear hx hy hm
        go_wp2_with (first
         | (have q2 := t2; go_at_call 87; refine (TM.out _).mono ?_; rintro e wx ⟨rfl, n4, hw⟩; obtain rfl := hw.symm; clear t2)
         | (have q1 := t1; go_at_call 86; refine (TB.out _).mono ?_; rintro e wx ⟨rfl, n3, hw⟩; obtain rfl := hw.symm; clear t1; have t2 : (2 : Nat) = 2 := rfl)
         | (have q0 := t0; go_at_call 86; refine T0.out.mono ?_; rintro e wx ⟨rfl, n2, hw⟩; obtain rfl := hw.symm; clear t0; have t1 := tR))
        go_roundw
        case rel => exact ⟨k + 1, by omega, by go_num, by rw [E1.out]; exact HW.out, below_drawn HB.out (n2 + n3 + n4)⟩
        case measure => simp [intOf]; omega
       ·rw [hx] at T0 FK US UA
        rw [hy] at TB FK
        rw [hm] at TM FK
        have FF : F k = false := by rw [FK.out]; simp
        obtain ⟨u1, u2, u3⟩ := UA.out
        have DN := ofb_down len hlt (u2.trans FF) u1 u3
        obtain ⟨g, cap, hv, OC⟩ := own_row HW.out (by rw [ofb_len]; omega)
        rw [ofb_len] at hv OC
        subst hv
        have gB := OC.2.1
        have AB := ofb_all len (upb F (hs xs) k) (k / 8)
        have OS := fun (wz : World) (h : OwnC w.heap.size wz g len cap (ofb len (upb F (hs xs) k))) => h.set (k / 8) (gb (ofb len (upb F (hs xs) k)) (k / 8) - ((2 ^ (k % 8) : Nat) : Int))
        rw [DN.1] at OS
        have HOS := hdH (OS)
        have HOC := hdH (OC)
        have DN2 := DN.2
        have S9 : Hid (∀ w0, Calls Try.prog 88 #[.int .i64 ((k % 8 : Nat) : Int)] w0 fun e w' => e = .returned (.int .i64 ((2 ^ (k % 8) : Nat) : Int)) ∧ w' = w0) := fun w0 => SP.out (k % 8) w0 (by omega)
        have r1 : (k : Int).tdiv 8 = ((k / 8 : Nat) : Int) := by rw [Int.tdiv_eq_ediv_of_nonneg (by omega)]; omega
        have r2 : (k : Int).tmod 8 = ((k % 8 : Nat) : Int) := by rw [Int.tmod_eq_emod_of_nonneg (by omega)]; omega
        have jb : k / 8 < len := by omega
        have tb : k % 8 < 8 := by omega
        have c1 := OC.cell jb
        have c2 := OC.free (k / 8)
        have p1 : 0 < 2 ^ (k % 8) := Nat.two_pow_pos _
        have p2 : 2 ^ (k % 8) ≤ 128 := Nat.pow_le_pow_right (by omega) (show k % 8 ≤ 7 by omega)
        clear hx hy hm FF u1 u2 u3 DN OS OC US UA FK HW
        generalize gb (ofb len (upb F (hs xs) k)) (k / 8) = x at *
        generalize 2 ^ (k % 8) = q at *
        generalize k / 8 = j at *
        generalize k % 8 = t at *
        have j2 : IntKind.i64.wrap (j : Int) = j := by rw [IntKind.wrap_i64]; omega
        have t2' : IntKind.i64.wrap (t : Int) = t := by rw [IntKind.wrap_i64]; omega
        have j1 : (j : Int) < (len : Int) := by omega
        have j0 : (0 : Int) ≤ (j : Int) := by omega
        have q2' : IntKind.u8.wrap (q : Int) = q := by rw [IntKind.wrap_u8']; omega
        have q3 : IntKind.u8.wrap (x - (q : Int)) = x - q := by rw [IntKind.wrap_u8']; omega
        have HG := hdH (gB)
        clear gB AB DN2 p1 p2
        go_wp2_with (first
         | (have q2 := t2; go_at_call 87; refine (TM.out _).mono ?_; rintro e wx ⟨rfl, n4, hw⟩; obtain rfl := hw.symm; clear t2)
         | (have q1 := t1; go_at_call 86; refine (TB.out _).mono ?_; rintro e wx ⟨rfl, n3, hw⟩; obtain rfl := hw.symm; clear t1; have t2 : (2 : Nat) = 2 := rfl)
         | (have q0 := t0; go_at_call 86; refine T0.out.mono ?_; rintro e wx ⟨rfl, n2, hw⟩; obtain rfl := hw.symm; clear t0; have t1 := tR))
        obtain ⟨wz, hwz⟩ : ∃ wz, wz = wa.drewN (n2 + n3 + n4) := ⟨_, rfl⟩
        have OZ : Hid (OwnC w.heap.size wz g len cap (ofb len (upb F (hs xs) k))) := by rw [hwz]; exact HOC.out
        have BZ : Hid (Below w.heap.size w wz) := by rw [hwz]; exact below_drawn HB.out _
        have d1 : wz.cell? ⟨g, j, none⟩ = some (.int .u8 x) := by rw [hwz]; exact c1
        have d2 : wz.frozen? ⟨g, j, none⟩ = false := by rw [hwz]; exact c2
        rw [← hwz]
        clear hwz c1 c2 HOC
        refine wp_region_any (by kernel_rfl) ?_
        change wpAny _ _ _ _ _ _ _ (World.drew _)
        refine wpAny_quiet_then (C := fun w' => ∃ n, w' = wz.drewN n) 0 14 1 _ (by kernel_rfl) rfl (by kernel_rfl) (by kernel_rfl) ⟨1, rfl⟩ ?_
        simp only [List.take_succ_cons, List.take_zero, List.drop_zero]
        repeat (quiet_step (with_reducible exact Calls.quiet_of_same (S9.out _)))
        refine wpQuiet_nil ?_
        rintro f _ ⟨nq, rfl⟩
        refine wpAny_ready (rs := [14]) (by kernel_rfl) (by simp) ?_
        refine AllReady.cons rfl (fun K hK => ?_) AllReady.nil
        refine step_set _ rfl none rfl (.tmp 76) (.tmp 75) 5 rfl .u8 (x - (q : Int)) g j rfl rfl (by rw [show (wz.drewN nq).cell? ⟨g, j, none⟩ = _ from d1]; rfl) d2 i_u8 (hK _ _ ?_)
        simp only [Act.put]
        have O6 : Hid (OwnC w.heap.size ((wz.drewN nq).setCell ⟨g, j, none⟩ (.int .u8 (x - (q : Int)))) g len cap (ofb len (upb F (hs xs) (k + 1)))) := HOS.out _ (OZ.out.drewN nq)
        have B6 : Hid (Below w.heap.size w ((wz.drewN nq).setCell ⟨g, j, none⟩ (.int .u8 (x - (q : Int))))) := (below_drawn BZ.out nq).setCell HG.out _
        clear d1 d2 OZ BZ HOS
        generalize (wz.drewN nq).setCell ⟨g, j, none⟩ (.int .u8 (x - (q : Int))) = w6 at *
        refine wpAny_done (by kernel_rfl) ?_ _
        go_wp2
        go_roundw
        case rel => exact ⟨k + 1, by omega, by go_num, O6.out.own, B6.out⟩
        case measure => simp [intOf]; omega
      ·rw [hx] at T0 FK US
       rw [hy] at TB FK
       have E1 : Hid (ofb len (upb F (hs xs) (k + 1)) = ofb len (upb F (hs xs) k)) := US.out (by rw [FK.out]; simp)
       clear hx hy
       go_wp2_with (first
        | (have q1 := t1; go_at_call 86; refine (TB.out _).mono ?_; rintro e wx ⟨rfl, n3, hw⟩; obtain rfl := hw.symm; clear t1)
        | (have q0 := t0; go_at_call 86; refine T0.out.mono ?_; rintro e wx ⟨rfl, n2, hw⟩; obtain rfl := hw.symm; clear t0; have t1 := tR))
       go_roundw
       case rel => exact ⟨k + 1, by omega, by go_num, by rw [E1.out]; exact HW.out, below_drawn HB.out (n2 + n3)⟩
       case measure => simp [intOf]; omega
    ·have hks : k = 8 * len := by omega
     subst hks
     have E9 : Hid (Own w.heap.size wa v1 (ofb len (prg xs ys m false (8 * len)))) := by
      show Own _ _ _ _
      have := HW.out
      rw [upb_end, ← HF.out] at this
      exact this
     go_wp2
     go_ret
     exact ⟨_, rfl, E9.out, HB.out⟩
theorem rprogO_true (va vb vm : Value) (xs ys m : List Int) (w : World) (ha : Byt w va xs) (hb : Byt w vb ys) (hm : Byt w vm m) (hl : xs.length = ys.length) (hmax : xs.length ≤ 1048576) :
  Calls Try.prog 65 #[va, vb, vm, .bool true] w fun e w' => ∃ v, e = .returned v ∧ Own w.heap.size w' v (ofb xs.length (prg xs ys m true (8 * xs.length))) ∧ Below w.heap.size w w' := by
 have SA : Hid (∀ (i : Nat) w0, Below w.heap.size w w0 → i < 8 * xs.length → Calls Try.prog 86 #[va, .int .i64 i] w0 fun e w' => e = .returned (.bool (hs xs i)) ∧ ∃ n, w' = w0.drewN n) := fun i w0 h hi => rhas_any va xs i w0 (ha.below h) hi hmax
 have SB : Hid (∀ (i : Nat) w0, Below w.heap.size w w0 → i < 8 * xs.length → Calls Try.prog 86 #[vb, .int .i64 i] w0 fun e w' => e = .returned (.bool (hs ys i)) ∧ ∃ n, w' = w0.drewN n) := fun i w0 h hi => rhas_any vb ys i w0 (hb.below h) (by omega) (by omega)
 have SM : Hid (∀ (i : Nat) w0, Below w.heap.size w w0 → i < 8 * xs.length → Calls Try.prog 87 #[vm, .int .i64 i] w0 fun e w' => e = .returned (.bool (mk m i)) ∧ ∃ n, w' = w0.drewN n) := fun i w0 h hi => by
  have := rbit_any vm m i w0 (hm.below h) (by omega)
  rwa [bo_nat] at this
 have SP : Hid (∀ (t : Nat) w0, t < 8 → Calls Try.prog 88 #[.int .i64 t] w0 fun e w' => e = .returned (.int .i64 ((2 ^ t : Nat) : Int)) ∧ w' = w0) := fun t w0 ht => power_any t w0 ht
 have HX : Hid (AllB xs) := ha.all
 have HV : Hid (Byt (w.alloc (.cells #[] 5)) va xs) := ha.below ((Below.refl _ _).alloc (Nat.le_refl _) _)
 have HO : Hid (Own w.heap.size (w.alloc (.cells #[] 5)) (.slice (some ⟨w.heap.size, 0, none⟩) 0 0) []) := Own.empty w (Nat.le_refl _)
 have B0 : Below w.heap.size w (w.alloc (.cells #[] 5)) := (Below.refl _ _).alloc (Nat.le_refl _) _
 have z0 := B0.size
 obtain ⟨ao, ca, rfl, ha1, ha2, -⟩ := ha
 clear hb hm
 obtain ⟨len, hlen⟩ : ∃ len, xs.length = len := ⟨_, rfl⟩
 have HLEN : Hid (xs.length = len) := hlen
 rw [hlen] at SA SB SM HV hmax ha1 ⊢
 clear hlen hl
 go_enter Try.func65, Try.ntmps65
 go_wp2_with (refine pushs_law _ rfl (.tmp 13) (.tmp 14) rfl w.heap.size z0 _ _ [] xs rfl rfl HO.out HV.out (by simp only [List.length_nil]; have := HLEN.out; omega) ?_; intro v1 w1 O1 b1; rw [List.nil_append] at O1; have HO1 := hdH (O1); clear O1; have C1 : Below w.heap.size w w1 := B0.trans b1; clear b1 B0)
 go_loopw [10, 11] (fun l i wr => ∃ k n : Nat, k ≤ 8 * len ∧ i = .int .i64 k ∧ l = .int .i64 ((lst xs ys k : Nat) - 1) ∧ wr = w1.drewN n) (fun _ i _ => 8 * len - (intOf i).toNat)
 case atStart => exact ⟨0, 0, Nat.zero_le _, rfl, rfl, rfl⟩
 case round =>
  obtain ⟨k, n, hk, rfl, rfl, rfl⟩ := hrel
  have HL1 : Hid (lst xs ys (k + 1) = if due xs ys k then k + 1 else lst xs ys k) := lst_succ xs ys k
  have k0 : (0 : Int) ≤ (k : Int) := by omega
  by_cases hlt : k < 8 * len
  ·have k1 : (k : Int) < 8 * (len : Int) := by omega
   have TA : Hid (∀ n, Calls Try.prog 86 #[.slice ao len ca, .int .i64 k] (w1.drewN n) fun e w' => e = .returned (.bool (hs xs k)) ∧ ∃ m, w' = (w1.drewN n).drewN m) := fun n => SA.out k _ (below_drawn C1 n) hlt
   have TB : Hid (∀ n, Calls Try.prog 86 #[vb, .int .i64 k] (w1.drewN n) fun e w' => e = .returned (.bool (hs ys k)) ∧ ∃ m, w' = (w1.drewN n).drewN m) := fun n => SB.out k _ (below_drawn C1 n) hlt
   have t0 := tR
   unfold due at HL1
   generalize lst xs ys k = l0 at *
   cases hx : hs xs k
   ·rw [hx] at TA HL1
    have E1 : Hid (lst xs ys (k + 1) = l0) := by show _ = _; rw [HL1.out]; simp
    clear hx HL1
    go_wp2_with (have q0 := t0; go_at_call 86; refine (TA.out _).mono ?_; rintro e wx ⟨rfl, n2, hw⟩; obtain rfl := hw.symm; clear t0)
    go_roundw
    case rel => exact ⟨k + 1, n + n2, by omega, by go_num, by rw [E1.out], rfl⟩
    case measure => simp [intOf]; omega
   ·cases hy : hs ys k
    ·rw [hx] at TA HL1
     rw [hy] at TB HL1
     have E1 : Hid (lst xs ys (k + 1) = k + 1) := by show _ = _; rw [HL1.out]; simp
     clear hx hy HL1
     go_wp2_with (first
      | (have q1 := t1; go_at_call 86; refine (TB.out _).mono ?_; rintro e wx ⟨rfl, n3, hw⟩; obtain rfl := hw.symm; clear t1)
      | (have q0 := t0; go_at_call 86; refine (TA.out _).mono ?_; rintro e wx ⟨rfl, n2, hw⟩; obtain rfl := hw.symm; clear t0; have t1 := tR))
     go_roundw
     case rel => exact ⟨k + 1, n + n2 + n3, by omega, by go_num, by rw [E1.out]; go_num, rfl⟩
     case measure => simp [intOf]; omega
    ·rw [hx] at TA HL1
     rw [hy] at TB HL1
     have E1 : Hid (lst xs ys (k + 1) = l0) := by show _ = _; rw [HL1.out]; simp
     clear hx hy HL1
     go_wp2_with (first
      | (have q1 := t1; go_at_call 86; refine (TB.out _).mono ?_; rintro e wx ⟨rfl, n3, hw⟩; obtain rfl := hw.symm; clear t1)
      | (have q0 := t0; go_at_call 86; refine (TA.out _).mono ?_; rintro e wx ⟨rfl, n2, hw⟩; obtain rfl := hw.symm; clear t0; have t1 := tR))
     go_roundw
     case rel => exact ⟨k + 1, n + n2 + n3, by omega, by go_num, by rw [E1.out], rfl⟩
     case measure => simp [intOf]; omega
  ·have hks : k = 8 * len := by omega
   have HLK : Hid (lst xs ys (8 * len) = lst xs ys k) := by show _ = _; rw [hks]
   obtain ⟨kk, rfl⟩ : ∃ kx, kx = k := ⟨_, rfl⟩
   clear HL1 hks
   obtain ⟨L, hL⟩ : ∃ L, lst xs ys kk = L := ⟨_, rfl⟩
   have HLL := hdH (HLK.out.trans hL)
   rw [hL]
   clear hL
   obtain ⟨F, hF⟩ : ∃ F, prg xs ys m true (8 * len) = F := ⟨_, rfl⟩
   have HF := hdH (hF)
   have HFK : Hid (∀ k, F k = (hs xs k && !(due xs ys k && mk m k && !(true && (k + 1 == L))))) := fun k => by rw [← hF, ← HLL.out]; rfl
   clear hF
   have HS : Hid (Own w.heap.size (w1.drewN n) v1 (ofb len (upb F (hs xs) 0))) := by
    show Own _ _ _ _
    rw [upb_zero, ← HLEN.out, ofb_hs xs HX.out (hs xs) (fun _ _ => rfl)]
    exact HO1.out
   have C2 : Hid (Below w.heap.size w (w1.drewN n)) := below_drawn C1 n
   have l0 : (0 : Int) ≤ (L : Int) := by omega
   have l1 : (L : Int) ≤ 8 * (len : Int) := by have := lst_le xs ys (8 * len); have := HLL.out; omega
   clear HO1 C1 HV HO z0
   go_wp2
   go_loopw [12] (fun i wr => ∃ k : Nat, k ≤ 8 * len ∧ i = .int .i64 k ∧ Hid (Own w.heap.size wr v1 (ofb len (upb F (hs xs) k))) ∧ Hid (Below w.heap.size w wr)) (fun i _ => 8 * len - (intOf i).toNat)
   case atStart => exact ⟨0, Nat.zero_le _, rfl, HS, C2⟩
   case round =>
    clear HS C2
    obtain ⟨k, hk, rfl, HW, HB⟩ := hrel
    obtain ⟨wa, rfl⟩ : ∃ wx, wx = wr := ⟨_, rfl⟩
    have k0 : (0 : Int) ≤ (k : Int) := by omega
    by_cases hlt : k < 8 * len
    ·have k1 : (k : Int) < 8 * (len : Int) := by omega
     have TB : Hid (∀ n, Calls Try.prog 86 #[vb, .int .i64 k] (wa.drewN n) fun e w' => e = .returned (.bool (hs ys k)) ∧ ∃ m, w' = (wa.drewN n).drewN m) := fun n => SB.out k _ (below_drawn HB.out n) hlt
     have TM : Hid (∀ n, Calls Try.prog 87 #[vm, .int .i64 k] (wa.drewN n) fun e w' => e = .returned (.bool (mk m k)) ∧ ∃ m, w' = (wa.drewN n).drewN m) := fun n => SM.out k _ (below_drawn HB.out n) hlt
     have FK : Hid (F k = (hs xs k && !(due xs ys k && mk m k && !(true && (k + 1 == L))))) := HFK.out k
     have US : Hid (F k = hs xs k → ofb len (upb F (hs xs) (k + 1)) = ofb len (upb F (hs xs) k)) := upb_same F (hs xs) len k
     have UA : Hid (upb F (hs xs) k k = hs xs k ∧ upb F (hs xs) (k + 1) k = F k ∧ ∀ i, i ≠ k → upb F (hs xs) k i = upb F (hs xs) (k + 1) i) := upb_at F (hs xs) k
     have T0 : Hid (Calls Try.prog 86 #[.slice ao len ca, .int .i64 k] wa fun e w' => e = .returned (.bool (hs xs k)) ∧ ∃ m, w' = wa.drewN m) := SA.out k _ HB.out hlt
     have t0 := tR
     unfold due at FK
     cases hx : hs xs k
     ·rw [hx] at T0 FK US
      have E1 : Hid (ofb len (upb F (hs xs) (k + 1)) = ofb len (upb F (hs xs) k)) := US.out (by rw [FK.out]; simp)
      clear hx
      go_wp2_with (have q0 := t0; go_at_call 86; refine T0.out.mono ?_; rintro e wx ⟨rfl, n2, hw⟩; obtain rfl := hw.symm; clear t0)
      go_roundw
      case rel => exact ⟨k + 1, by omega, by go_num, by rw [E1.out]; exact HW.out, below_drawn HB.out n2⟩
      case measure => simp [intOf]; omega
     ·cases hy : hs ys k
      ·cases hm : mk m k
       ·rw [hx] at T0 FK US
        rw [hy] at TB FK
        rw [hm] at TM FK
        have E1 : Hid (ofb len (upb F (hs xs) (k + 1)) = ofb len (upb F (hs xs) k)) := US.out (by rw [FK.out]; simp)
        clear hx hy hm
        go_wp2_with (first
         | (have q2 := t2; go_at_call 87; refine (TM.out _).mono ?_; rintro e wx ⟨rfl, n4, hw⟩; obtain rfl := hw.symm; clear t2)
         | (have q1 := t1; go_at_call 86; refine (TB.out _).mono ?_; rintro e wx ⟨rfl, n3, hw⟩; obtain rfl := hw.symm; clear t1; have t2 : (2 : Nat) = 2 := rfl)
         | (have q0 := t0; go_at_call 86; refine T0.out.mono ?_; rintro e wx ⟨rfl, n2, hw⟩; obtain rfl := hw.symm; clear t0; have t1 := tR))
        go_roundw
        case rel => exact ⟨k + 1, by omega, by go_num, by rw [E1.out]; exact HW.out, below_drawn HB.out (n2 + n3 + n4)⟩
        case measure => simp [intOf]; omega
       ·by_cases hq : k + 1 = L
        ·rw [hx] at T0 FK US
         rw [hy] at TB FK
         rw [hm] at TM FK
         have E1 : Hid (ofb len (upb F (hs xs) (k + 1)) = ofb len (upb F (hs xs) k)) := US.out (by rw [FK.out]; simp [hq])
         have e9 : (k : Int) = (L : Int) - 1 := by omega
         have b9 : ((k : Int) == (L : Int) - 1) = true := by simpa using e9
         clear hx hy hm e9 hq
         go_wp2_with (first
          | (have q2 := t2; go_at_call 87; refine (TM.out _).mono ?_; rintro e wx ⟨rfl, n4, hw⟩; obtain rfl := hw.symm; clear t2)
           | (have q1 := t1; go_at_call 86; refine (TB.out _).mono ?_; rintro e wx ⟨rfl, n3, hw⟩; obtain rfl := hw.symm; clear t1; have t2 : (2 : Nat) = 2 := rfl)
           | (have q0 := t0; go_at_call 86; refine T0.out.mono ?_; rintro e wx ⟨rfl, n2, hw⟩; obtain rfl := hw.symm; clear t0; have t1 := tR))
         go_roundw
         case rel => exact ⟨k + 1, by omega, by go_num, by rw [E1.out]; exact HW.out, below_drawn HB.out (n2 + n3 + n4)⟩
         case measure => simp [intOf]; omega
        ·have b9 : ((k : Int) == (L : Int) - 1) = false := by simpa using (show (k : Int) ≠ (L : Int) - 1 by omega)
         have hq2 : (k + 1 == L) = false := by simpa using hq
         rw [hx] at T0 FK US UA
         rw [hy] at TB FK
         rw [hm] at TM FK
         have FF : F k = false := by rw [FK.out]; simp [hq2]
         obtain ⟨u1, u2, u3⟩ := UA.out
         have DN := ofb_down len hlt (u2.trans FF) u1 u3
         obtain ⟨g, cap, hv, OC⟩ := own_row HW.out (by rw [ofb_len]; omega)
         rw [ofb_len] at hv OC
         subst hv
         have gB := OC.2.1
         have AB := ofb_all len (upb F (hs xs) k) (k / 8)
         have OS := fun (wz : World) (h : OwnC w.heap.size wz g len cap (ofb len (upb F (hs xs) k))) => h.set (k / 8) (gb (ofb len (upb F (hs xs) k)) (k / 8) - ((2 ^ (k % 8) : Nat) : Int))
         rw [DN.1] at OS
         have HOS := hdH (OS)
         have HOC := hdH (OC)
         have DN2 := DN.2
         have S9 : Hid (∀ w0, Calls Try.prog 88 #[.int .i64 ((k % 8 : Nat) : Int)] w0 fun e w' => e = .returned (.int .i64 ((2 ^ (k % 8) : Nat) : Int)) ∧ w' = w0) := fun w0 => SP.out (k % 8) w0 (by omega)
         have r1 : (k : Int).tdiv 8 = ((k / 8 : Nat) : Int) := by rw [Int.tdiv_eq_ediv_of_nonneg (by omega)]; omega
         have r2 : (k : Int).tmod 8 = ((k % 8 : Nat) : Int) := by rw [Int.tmod_eq_emod_of_nonneg (by omega)]; omega
         have jb : k / 8 < len := by omega
         have tb : k % 8 < 8 := by omega
         have c1 := OC.cell jb
         have c2 := OC.free (k / 8)
         have p1 : 0 < 2 ^ (k % 8) := Nat.two_pow_pos _
         have p2 : 2 ^ (k % 8) ≤ 128 := Nat.pow_le_pow_right (by omega) (show k % 8 ≤ 7 by omega)
         clear hx hy hm hq hq2 FF u1 u2 u3 DN OS OC US UA FK HW
         generalize gb (ofb len (upb F (hs xs) k)) (k / 8) = x at *
         generalize 2 ^ (k % 8) = q at *
         generalize k / 8 = j at *
         generalize k % 8 = t at *
         have j2 : IntKind.i64.wrap (j : Int) = j := by rw [IntKind.wrap_i64]; omega
         have t2' : IntKind.i64.wrap (t : Int) = t := by rw [IntKind.wrap_i64]; omega
         have j1 : (j : Int) < (len : Int) := by omega
         have j0 : (0 : Int) ≤ (j : Int) := by omega
         have q2' : IntKind.u8.wrap (q : Int) = q := by rw [IntKind.wrap_u8']; omega
         have q3 : IntKind.u8.wrap (x - (q : Int)) = x - q := by rw [IntKind.wrap_u8']; omega
         have HG := hdH (gB)
         clear gB AB DN2 p1 p2
         go_wp2_with (first
          | (have q2 := t2; go_at_call 87; refine (TM.out _).mono ?_; rintro e wx ⟨rfl, n4, hw⟩; obtain rfl := hw.symm; clear t2)
          | (have q1 := t1; go_at_call 86; refine (TB.out _).mono ?_; rintro e wx ⟨rfl, n3, hw⟩; obtain rfl := hw.symm; clear t1; have t2 : (2 : Nat) = 2 := rfl)
          | (have q0 := t0; go_at_call 86; refine T0.out.mono ?_; rintro e wx ⟨rfl, n2, hw⟩; obtain rfl := hw.symm; clear t0; have t1 := tR))
         obtain ⟨wz, hwz⟩ : ∃ wz, wz = wa.drewN (n2 + n3 + n4) := ⟨_, rfl⟩
         have OZ : Hid (OwnC w.heap.size wz g len cap (ofb len (upb F (hs xs) k))) := by rw [hwz]; exact HOC.out
         have BZ : Hid (Below w.heap.size w wz) := by rw [hwz]; exact below_drawn HB.out _
         have d1 : wz.cell? ⟨g, j, none⟩ = some (.int .u8 x) := by rw [hwz]; exact c1
         have d2 : wz.frozen? ⟨g, j, none⟩ = false := by rw [hwz]; exact c2
         rw [← hwz]
         clear hwz c1 c2 HOC
         refine wp_region_any (by kernel_rfl) ?_
         change wpAny _ _ _ _ _ _ _ (World.drew _)
         refine wpAny_quiet_then (C := fun w' => ∃ n, w' = wz.drewN n) 0 14 1 _ (by kernel_rfl) rfl (by kernel_rfl) (by kernel_rfl) ⟨1, rfl⟩ ?_
         simp only [List.take_succ_cons, List.take_zero, List.drop_zero]
         repeat (quiet_step (with_reducible exact Calls.quiet_of_same (S9.out _)))
         refine wpQuiet_nil ?_
         rintro f _ ⟨nq, rfl⟩
         refine wpAny_ready (rs := [14]) (by kernel_rfl) (by simp) ?_
         refine AllReady.cons rfl (fun K hK => ?_) AllReady.nil
         refine step_set _ rfl none rfl (.tmp 76) (.tmp 75) 5 rfl .u8 (x - (q : Int)) g j rfl rfl (by rw [show (wz.drewN nq).cell? ⟨g, j, none⟩ = _ from d1]; rfl) d2 i_u8 (hK _ _ ?_)
         simp only [Act.put]
         have O6 : Hid (OwnC w.heap.size ((wz.drewN nq).setCell ⟨g, j, none⟩ (.int .u8 (x - (q : Int)))) g len cap (ofb len (upb F (hs xs) (k + 1)))) := HOS.out _ (OZ.out.drewN nq)
         have B6 : Hid (Below w.heap.size w ((wz.drewN nq).setCell ⟨g, j, none⟩ (.int .u8 (x - (q : Int))))) := (below_drawn BZ.out nq).setCell HG.out _
         clear d1 d2 OZ BZ HOS
         generalize (wz.drewN nq).setCell ⟨g, j, none⟩ (.int .u8 (x - (q : Int))) = w6 at *
         refine wpAny_done (by kernel_rfl) ?_ _
         go_wp2
         go_roundw
         case rel => exact ⟨k + 1, by omega, by go_num, O6.out.own, B6.out⟩
         case measure => simp [intOf]; omega
      ·rw [hx] at T0 FK US
       rw [hy] at TB FK
       have E1 : Hid (ofb len (upb F (hs xs) (k + 1)) = ofb len (upb F (hs xs) k)) := US.out (by rw [FK.out]; simp)
       clear hx hy
       go_wp2_with (first
        | (have q1 := t1; go_at_call 86; refine (TB.out _).mono ?_; rintro e wx ⟨rfl, n3, hw⟩; obtain rfl := hw.symm; clear t1)
        | (have q0 := t0; go_at_call 86; refine T0.out.mono ?_; rintro e wx ⟨rfl, n2, hw⟩; obtain rfl := hw.symm; clear t0; have t1 := tR))
       go_roundw
       case rel => exact ⟨k + 1, by omega, by go_num, by rw [E1.out]; exact HW.out, below_drawn HB.out (n2 + n3)⟩
       case measure => simp [intOf]; omega
    ·have hks : k = 8 * len := by omega
     subst hks
     have E9 : Hid (Own w.heap.size wa v1 (ofb len (prg xs ys m true (8 * len)))) := by
      show Own _ _ _ _
      have := HW.out
      rw [upb_end, ← HF.out] at this
      exact this
     go_wp2
     go_ret
     exact ⟨_, rfl, E9.out, HB.out⟩
theorem rerase_own (va vm : Value) (xs m : List Int) (w : World) (ha : Byt w va xs) (hm : Byt w vm m) (hmax : xs.length ≤ 1048576) :
  Calls Try.prog 68 #[va, vm] w fun e w' => ∃ v, e = .returned v ∧ Own w.heap.size w' v (ofb xs.length (erased xs m)) ∧ Below w.heap.size w w' := by
 have SA : Hid (∀ (i : Nat) w0, Below w.heap.size w w0 → i < 8 * xs.length → Calls Try.prog 86 #[va, .int .i64 i] w0 fun e w' => e = .returned (.bool (hs xs i)) ∧ ∃ n, w' = w0.drewN n) := fun i w0 h hi => rhas_any va xs i w0 (ha.below h) hi hmax
 have SM : Hid (∀ (i : Nat) w0, Below w.heap.size w w0 → i < 8 * xs.length → Calls Try.prog 87 #[vm, .int .i64 i] w0 fun e w' => e = .returned (.bool (mk m i)) ∧ ∃ n, w' = w0.drewN n) := fun i w0 h hi => by
  have := rbit_any vm m i w0 (hm.below h) (by omega)
  rwa [bo_nat] at this
 have SP : Hid (∀ (t : Nat) w0, t < 8 → Calls Try.prog 88 #[.int .i64 t] w0 fun e w' => e = .returned (.int .i64 ((2 ^ t : Nat) : Int)) ∧ w' = w0) := fun t w0 ht => power_any t w0 ht
 have HX : Hid (AllB xs) := ha.all
 have HV : Hid (Byt (w.alloc (.cells #[] 5)) va xs) := ha.below ((Below.refl _ _).alloc (Nat.le_refl _) _)
 have HO : Hid (Own w.heap.size (w.alloc (.cells #[] 5)) (.slice (some ⟨w.heap.size, 0, none⟩) 0 0) []) := Own.empty w (Nat.le_refl _)
 have B0 : Below w.heap.size w (w.alloc (.cells #[] 5)) := (Below.refl _ _).alloc (Nat.le_refl _) _
 have z0 := B0.size
 obtain ⟨ao, ca, rfl, ha1, ha2, -⟩ := ha
 clear hm
 obtain ⟨len, hlen⟩ : ∃ len, xs.length = len := ⟨_, rfl⟩
 have HLEN : Hid (xs.length = len) := hlen
 rw [hlen] at SA SM HV hmax ha1 ⊢
 clear hlen
 obtain ⟨F, hF⟩ : ∃ F, erased xs m = F := ⟨_, rfl⟩
 have HF := hdH (hF)
 have HFK : Hid (∀ k, F k = (hs xs k || mk m k)) := fun k => by rw [← hF]; rfl
 rw [hF]
 clear hF
 go_enter Try.func68, Try.ntmps68
 go_wp2_with (refine pushs_law _ rfl (.tmp 7) (.tmp 8) rfl w.heap.size z0 _ _ [] xs rfl rfl HO.out HV.out (by simp only [List.length_nil]; have := HLEN.out; omega) ?_; intro v1 w1 O1 b1; rw [List.nil_append] at O1; have HO1 := hdH (O1); clear O1; have C1 : Below w.heap.size w w1 := B0.trans b1; clear b1 B0)
 have HS : Hid (Own w.heap.size w1 v1 (ofb len (upb F (hs xs) 0))) := by
  show Own _ _ _ _
  rw [upb_zero, ← HLEN.out, ofb_hs xs HX.out (hs xs) (fun _ _ => rfl)]
  exact HO1.out
 have C2 := hdH (C1)
 clear HO1 C1 HV HO z0
 go_loopw [6] (fun i wr => ∃ k : Nat, k ≤ 8 * len ∧ i = .int .i64 k ∧ Hid (Own w.heap.size wr v1 (ofb len (upb F (hs xs) k))) ∧ Hid (Below w.heap.size w wr)) (fun i _ => 8 * len - (intOf i).toNat)
 case atStart => exact ⟨0, Nat.zero_le _, rfl, HS, C2⟩
 case round =>
  clear HS C2
  obtain ⟨k, hk, rfl, HW, HB⟩ := hrel
  obtain ⟨wa, rfl⟩ : ∃ wx, wx = wr := ⟨_, rfl⟩
  have k0 : (0 : Int) ≤ (k : Int) := by omega
  by_cases hlt : k < 8 * len
  ·have k1 : (k : Int) < 8 * (len : Int) := by omega
   have TM : Hid (∀ n, Calls Try.prog 87 #[vm, .int .i64 k] (wa.drewN n) fun e w' => e = .returned (.bool (mk m k)) ∧ ∃ m, w' = (wa.drewN n).drewN m) := fun n => SM.out k _ (below_drawn HB.out n) hlt
   have FK : Hid (F k = (hs xs k || mk m k)) := HFK.out k
   have US : Hid (F k = hs xs k → ofb len (upb F (hs xs) (k + 1)) = ofb len (upb F (hs xs) k)) := upb_same F (hs xs) len k
   have UA : Hid (upb F (hs xs) k k = hs xs k ∧ upb F (hs xs) (k + 1) k = F k ∧ ∀ i, i ≠ k → upb F (hs xs) k i = upb F (hs xs) (k + 1) i) := upb_at F (hs xs) k
   have T0 : Hid (Calls Try.prog 86 #[.slice ao len ca, .int .i64 k] wa fun e w' => e = .returned (.bool (hs xs k)) ∧ ∃ m, w' = wa.drewN m) := SA.out k _ HB.out hlt
   have t0 := tR
   cases hx : hs xs k
   ·cases hm : mk m k
    ·rw [hx] at T0 FK US
     rw [hm] at TM FK
     have E1 : Hid (ofb len (upb F (hs xs) (k + 1)) = ofb len (upb F (hs xs) k)) := US.out (by rw [FK.out]; simp)
     clear hx hm
     go_wp2_with (first
      | (have q1 := t1; go_at_call 87; refine (TM.out _).mono ?_; rintro e wx ⟨rfl, n3, hw⟩; obtain rfl := hw.symm; clear t1)
       | (have q0 := t0; go_at_call 86; refine T0.out.mono ?_; rintro e wx ⟨rfl, n2, hw⟩; obtain rfl := hw.symm; clear t0; have t1 := tR))
     go_roundw
     case rel => exact ⟨k + 1, by omega, by go_num, by rw [E1.out]; exact HW.out, below_drawn HB.out (n2 + n3)⟩
     case measure => simp [intOf]; omega
    ·rw [hx] at T0 FK US UA
     rw [hm] at TM FK
     have FF : F k = true := by rw [FK.out]; simp
     obtain ⟨u1, u2, u3⟩ := UA.out
     have DN := ofb_up len u1 (u2.trans FF) (fun i hi => (u3 i hi).symm)
     obtain ⟨g, cap, hv, OC⟩ := own_row HW.out (by rw [ofb_len]; omega)
     rw [ofb_len] at hv OC
     subst hv
     have gB := OC.2.1
     have AB := ofb_all len (upb F (hs xs) k) (k / 8)
     have OS := fun (wz : World) (h : OwnC w.heap.size wz g len cap (ofb len (upb F (hs xs) k))) => h.set (k / 8) (gb (ofb len (upb F (hs xs) k)) (k / 8) + ((2 ^ (k % 8) : Nat) : Int))
     rw [DN] at OS
     have HOS := hdH (OS)
     have HOC := hdH (OC)
     have DN2 := up_le len hlt u1 (u2.trans FF) (fun i hi => (u3 i hi).symm)
     have S9 : Hid (∀ w0, Calls Try.prog 88 #[.int .i64 ((k % 8 : Nat) : Int)] w0 fun e w' => e = .returned (.int .i64 ((2 ^ (k % 8) : Nat) : Int)) ∧ w' = w0) := fun w0 => SP.out (k % 8) w0 (by omega)
     have r1 : (k : Int).tdiv 8 = ((k / 8 : Nat) : Int) := by rw [Int.tdiv_eq_ediv_of_nonneg (by omega)]; omega
     have r2 : (k : Int).tmod 8 = ((k % 8 : Nat) : Int) := by rw [Int.tmod_eq_emod_of_nonneg (by omega)]; omega
     have jb : k / 8 < len := by omega
     have tb : k % 8 < 8 := by omega
     have c1 := OC.cell jb
     have c2 := OC.free (k / 8)
     have p1 : 0 < 2 ^ (k % 8) := Nat.two_pow_pos _
     have p2 : 2 ^ (k % 8) ≤ 128 := Nat.pow_le_pow_right (by omega) (show k % 8 ≤ 7 by omega)
     clear hx hm FF u1 u2 u3 DN OS OC US UA FK HW
     generalize gb (ofb len (upb F (hs xs) k)) (k / 8) = x at *
     generalize 2 ^ (k % 8) = q at *
     generalize k / 8 = j at *
     generalize k % 8 = t at *
     have j2 : IntKind.i64.wrap (j : Int) = j := by rw [IntKind.wrap_i64]; omega
     have t2' : IntKind.i64.wrap (t : Int) = t := by rw [IntKind.wrap_i64]; omega
     have j1 : (j : Int) < (len : Int) := by omega
     have j0 : (0 : Int) ≤ (j : Int) := by omega
     have q2' : IntKind.u8.wrap (q : Int) = q := by rw [IntKind.wrap_u8']; omega
     have q3 : IntKind.u8.wrap (x + (q : Int)) = x + q := by rw [IntKind.wrap_u8']; omega
     have HG := hdH (gB)
     clear gB AB DN2 p1 p2
     go_wp2_with (first
      | (have q1 := t1; go_at_call 87; refine (TM.out _).mono ?_; rintro e wx ⟨rfl, n3, hw⟩; obtain rfl := hw.symm; clear t1)
      | (have q0 := t0; go_at_call 86; refine T0.out.mono ?_; rintro e wx ⟨rfl, n2, hw⟩; obtain rfl := hw.symm; clear t0; have t1 := tR))
     obtain ⟨wz, hwz⟩ : ∃ wz, wz = wa.drewN (n2 + n3) := ⟨_, rfl⟩
     have OZ : Hid (OwnC w.heap.size wz g len cap (ofb len (upb F (hs xs) k))) := by rw [hwz]; exact HOC.out
     have BZ : Hid (Below w.heap.size w wz) := by rw [hwz]; exact below_drawn HB.out _
     have d1 : wz.cell? ⟨g, j, none⟩ = some (.int .u8 x) := by rw [hwz]; exact c1
     have d2 : wz.frozen? ⟨g, j, none⟩ = false := by rw [hwz]; exact c2
     rw [← hwz]
     clear hwz c1 c2 HOC
     refine wp_region_any (by kernel_rfl) ?_
     change wpAny _ _ _ _ _ _ _ (World.drew _)
     refine wpAny_quiet_then (C := fun w' => ∃ n, w' = wz.drewN n) 0 14 1 _ (by kernel_rfl) rfl (by kernel_rfl) (by kernel_rfl) ⟨1, rfl⟩ ?_
     simp only [List.take_succ_cons, List.take_zero, List.drop_zero]
     repeat (quiet_step (with_reducible exact Calls.quiet_of_same (S9.out _)))
     refine wpQuiet_nil ?_
     rintro f _ ⟨nq, rfl⟩
     refine wpAny_ready (rs := [14]) (by kernel_rfl) (by simp) ?_
     refine AllReady.cons rfl (fun K hK => ?_) AllReady.nil
     refine step_set _ rfl none rfl (.tmp 39) (.tmp 38) 5 rfl .u8 (x + (q : Int)) g j rfl rfl (by rw [show (wz.drewN nq).cell? ⟨g, j, none⟩ = _ from d1]; rfl) d2 i_u8 (hK _ _ ?_)
     simp only [Act.put]
     have O6 : Hid (OwnC w.heap.size ((wz.drewN nq).setCell ⟨g, j, none⟩ (.int .u8 (x + (q : Int)))) g len cap (ofb len (upb F (hs xs) (k + 1)))) := HOS.out _ (OZ.out.drewN nq)
     have B6 : Hid (Below w.heap.size w ((wz.drewN nq).setCell ⟨g, j, none⟩ (.int .u8 (x + (q : Int))))) := (below_drawn BZ.out nq).setCell HG.out _
     clear d1 d2 OZ BZ HOS
     generalize (wz.drewN nq).setCell ⟨g, j, none⟩ (.int .u8 (x + (q : Int))) = w6 at *
     refine wpAny_done (by kernel_rfl) ?_ _
     go_wp2
     go_roundw
     case rel => exact ⟨k + 1, by omega, by go_num, O6.out.own, B6.out⟩
     case measure => simp [intOf]; omega
   ·rw [hx] at T0 FK US
    have E1 : Hid (ofb len (upb F (hs xs) (k + 1)) = ofb len (upb F (hs xs) k)) := US.out (by rw [FK.out]; simp)
    clear hx
    go_wp2_with (have q0 := t0; go_at_call 86; refine T0.out.mono ?_; rintro e wx ⟨rfl, n2, hw⟩; obtain rfl := hw.symm; clear t0)
    go_roundw
    case rel => exact ⟨k + 1, by omega, by go_num, by rw [E1.out]; exact HW.out, below_drawn HB.out n2⟩
    case measure => simp [intOf]; omega
  ·have hks : k = 8 * len := by omega
   subst hks
   have E9 : Hid (Own w.heap.size wa v1 (ofb len F)) := by
    show Own _ _ _ _
    have := HW.out
    rw [upb_end] at this
    exact this
   go_wp2
   go_ret
   exact ⟨_, rfl, E9.out, HB.out⟩
end Go.Proofs.Ytikcohjhhoiakaa.fa
