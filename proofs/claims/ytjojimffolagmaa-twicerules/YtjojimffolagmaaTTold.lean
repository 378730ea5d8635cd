/- What the reference's told and left answer. No claim of its own. -/
import Derived.Test.YtjojimffolagmaaTInts
namespace Go.Proofs.Ytjojimffolagmaa
open Go.RowKit

theorem up_pow (b j : Nat) : 2 * ((b / 2 ^ (j + 1) : Nat) : Int) + b01 (b.testBit j) = ((b / 2 ^ j : Nat) : Int) := by
  rw [← b01_mod, ← half_pow]
  omega
theorem bt16_take (n k : Nat) (h : k < 16) : (bt16 n).take (k + 1) = (bt16 n).take k ++ [((n / 2 ^ (8 * k) % 2 ^ 8 : Nat) : Int)] := by
  rw [List.take_succ_eq_append_getElem (by rw [bt16_len]; exact h)]
  simp [bt16]

set_option linter.unusedSimpArgs false in
set_option maxRecDepth 20000 in
set_option maxHeartbeats 4000000 in
theorem rtold_any (v : Value) (N : Nat) (w : World) (hv : Its w v (cf 128 N)) :
    Calls Try.prog 22 #[v] w fun e w' => ∃ v', e = .returned v' ∧ Byt w' v' (bt16 N) ∧ Below w.heap.size w w' := by
  obtain ⟨gc, ca, rfl, ha1, ha2, hA, hgw⟩ := hv
  rw [cf_len] at ha1 ⊢
  have HC : Hid (∀ i j, i < 16 → j < 8 → w.cell? ⟨gc, 8 * i + j, none⟩ = some (.int .i64 (b01 ((N / 2 ^ (8 * i) % 2 ^ 8).testBit j)))) := fun i j hi hj => by
    have := hA.cell0 (8 * i + j) (by rw [cf_len]; omega)
    rwa [cf_gb _ _ _ (by omega), ← part_bit N i j hj] at this
  have HT : Hid (∀ k, k < 16 → (bt16 N).take (k + 1) = (bt16 N).take k ++ [((N / 2 ^ (8 * k) % 2 ^ 8 : Nat) : Int)]) := fun k hk => bt16_take N k hk
  have HL : Hid ((bt16 N).length = 16 ∧ (bt16 N).take 16 = bt16 N ∧ AllB (bt16 N)) := ⟨bt16_len _, by rw [List.take_of_length_le (by rw [bt16_len]; omega)], bt16_all _⟩
  have HBY : Hid (∀ k, N / 2 ^ (8 * k) % 2 ^ 8 < 256) := fun k => Nat.mod_lt _ (by decide)
  clear hA
  generalize bt16 N = zs at *
  obtain ⟨f, hf⟩ : ∃ f : Nat → Nat, f = fun k => N / 2 ^ (8 * k) % 2 ^ 8 := ⟨_, rfl⟩
  have ef : ∀ k, N / 2 ^ (8 * k) % 2 ^ 8 = f k := fun k => by rw [hf]
  simp only [ef] at HC HT HBY
  clear ef hf
  go_enter Try.func22, Try.ntmps22
  go_wp2
  go_loopw [3, 4] (fun u i wr => ∃ k : Nat, k ≤ 16 ∧ i = .int .i64 k ∧ Own w.heap.size wr u (zs.take k) ∧ Below w.heap.size w wr) (fun _ i _ => 16 - (intOf i).toNat)
  case atStart => exact ⟨0, Nat.zero_le _, rfl, Own.empty w (Nat.le_refl _), (Below.refl _ _).alloc (Nat.le_refl _) _⟩
  case round =>
    obtain ⟨k, hk, rfl, hO, hB⟩ := hrel
    obtain ⟨wa, rfl⟩ : ∃ wx, wx = wr := ⟨_, rfl⟩
    have k0 : (0 : Int) ≤ (k : Int) := by omega
    have q1 : IntKind.i64.wrap (k : Int) = k := by rw [IntKind.wrap_i64]; omega
    have HO : Hid (Own w.heap.size wa u3 (zs.take k)) := hO
    have HB : Hid (Below w.heap.size w wa) := hB
    have hsz := hB.size
    clear hO hB
    by_cases hlt : k < 16
    · have k1 : (k : Int) < 16 := by omega
      obtain ⟨b, hb⟩ : ∃ b : Nat, b = f k := ⟨_, rfl⟩
      have hb8 : b < 256 := by rw [hb]; exact HBY.out k
      have HCk : Hid (∀ j, j < 8 → wa.cell? ⟨gc, 8 * k + j, none⟩ = some (.int .i64 (b01 (b.testBit j)))) := fun j hj => by
        rw [HB.out.cell hgw, hb]; exact HC.out k j hlt hj
      have HTk : Hid (zs.take (k + 1) = zs.take k ++ [(b : Int)]) := by show _ = _; rw [hb]; exact HT.out k hlt
      have HTL : Hid ((zs.take k).length ≤ 16) := by show _ ≤ _; rw [List.length_take, HL.out.1]; omega
      clear hb
      go_wp2
      go_loopw [5, 6] (fun n j wr => ∃ m : Nat, m ≤ 8 ∧ j = .int .i64 ((m : Int) - 1) ∧ n = .int .i64 ((b / 2 ^ m : Nat) : Int) ∧ wr = wa) (fun _ j _ => (intOf j + 1).toNat)
      case atStart => exact ⟨8, Nat.le_refl _, rfl, by rw [show b / 2 ^ 8 = 0 by omega]; rfl, rfl⟩
      case round =>
        obtain ⟨m, hm, rfl, rfl, hw⟩ := hrel
        obtain rfl := hw.symm
        by_cases hmt : 0 < m
        · obtain ⟨j, rfl⟩ : ∃ j, m = j + 1 := ⟨m - 1, by omega⟩
          have hj : j < 8 := by omega
          have j0 : (0 : Int) ≤ (j : Int) := by omega
          have e1 : (((j + 1 : Nat) : Int) - 1) = (j : Int) := by omega
          rw [e1]
          have c1 := HCk.out j hj
          have HU : Hid (2 * ((b / 2 ^ (j + 1) : Nat) : Int) + b01 (b.testBit j) = ((b / 2 ^ j : Nat) : Int)) := up_pow b j
          have b1 := b01_bd (b.testBit j)
          have hx8 : b / 2 ^ (j + 1) < 256 := Nat.lt_of_le_of_lt (Nat.div_le_self _ _) hb8
          have q8 : IntKind.i64.wrap (8 * (k : Int)) = 8 * (k : Int) := by rw [IntKind.wrap_i64]; omega
          have q9 : IntKind.i64.wrap (8 * (k : Int) + (j : Int)) = ((8 * k + j : Nat) : Int) := by rw [IntKind.wrap_i64]; omega
          have q10 : 8 * (k : Int) + (j : Int) = ((8 * k + j : Nat) : Int) := by omega
          have l1 : ((8 * k + j : Nat) : Int) < 128 := by omega
          have l0 : (0 : Int) ≤ ((8 * k + j : Nat) : Int) := by omega
          have q11 : IntKind.i64.wrap ((j : Int) - 1) = (j : Int) - 1 := by rw [IntKind.wrap_i64]; omega
          generalize 8 * k + j = t at *
          generalize b01 (b.testBit j) = y at *
          generalize b / 2 ^ (j + 1) = x at *
          go_wp2
          go_roundw
          case rel => exact ⟨j, by omega, by go_num, by rw [HU.out], trivial⟩
          case measure => simp [intOf]
        · have hm0 : m = 0 := by omega
          subst hm0
          have e0 : (((0 : Nat) : Int) - 1) = -1 := rfl
          have e2 : b / 2 ^ 0 = b := by simp
          rw [e0, e2]
          have q12 : IntKind.u8.wrap (b : Int) = (b : Int) := by rw [IntKind.wrap_u8']; omega
          go_wp2_with (at_builtin; refine push_law wa rfl (.tmp 26) (.tmp 29) rfl w.heap.size hsz _ (zs.take k) _ rfl rfl HO.out (by have := HTL.out; omega) ?_; intro v' w1 O1 B1; have HO1 : Hid (Own w.heap.size w1 v' (zs.take (k + 1))) := (by show Own _ _ _ _; rw [HTk.out]; exact O1); have HB1 : Hid (Below w.heap.size w w1) := HB.out.trans B1; clear O1 B1)
          go_roundw
          case rel => exact ⟨k + 1, by omega, by go_num, HO1.out, HB1.out⟩
          case measure => simp [intOf]; omega
    · have hk16 : k = 16 := by omega
      subst hk16
      have HO2 : Hid (Own w.heap.size wa u3 zs) := by have := HO.out; rw [HL.out.2.1] at this; exact this
      clear HO
      go_wp2
      go_ret
      exact ⟨_, rfl, HO2.out.byt HL.out.2.2, HB.out⟩

/-! ### what is left -/
theorem cf_cut (L n : Nat) (h : 128 ≤ L) : (cf L n).take 128 = cf 128 n := ext_gb (by rw [List.length_take, cf_len, cf_len]; omega) fun t ht => by
  rw [List.length_take, cf_len] at ht
  have e : gb ((cf L n).take 128) t = gb (cf L n) t := by simp [gb, List.getD, show t < 128 by omega]
  rw [e, cf_gb _ _ _ (by omega), cf_gb _ _ _ (by omega)]
theorem rs_yes (N k : Nat) (h : N.testBit (128 + k) = true) : rs N (128 + k) = ((N ^^^ 2 ^ k) ^^^ 2 ^ (k + 1)) ^^^ 2 ^ (k + 2) ^^^ 2 ^ (k + 7) := by
  rw [four_bits]
  unfold rs
  rw [h, show 128 + k - 128 = k by omega]
  rfl
theorem rs_not (N k : Nat) (h : N.testBit (128 + k) = false) : rs N (128 + k) = N := by
  unfold rs
  rw [h]
  simp [sel]

set_option linter.unusedSimpArgs false in
set_option maxRecDepth 20000 in
set_option maxHeartbeats 4000000 in
theorem rleft_any (v : Value) (N m : Nat) (w : World) (hm : m ≤ 128) (hv : Its w v (cf (128 + m) N)) :
    Calls Try.prog 23 #[v] w fun e w' => ∃ v', e = .returned v' ∧ Its w' v' (cf 128 (lf N m)) ∧ Below w.heap.size w w' := by
  have HV : Hid (Its w v (cf (128 + m) N)) := hv
  have HL : Hid (∀ X, (cf (128 + m) X).length = 128 + m) := fun X => cf_len _ X
  clear hv
  go_enter Try.func23, Try.ntmps23
  go_wp2_with (at_builtin; refine pushs_lawI _ rfl (.tmp 5) (.tmp 6) rfl w.heap.size (by simp) _ v [] (cf (128 + m) N) rfl rfl (OwnI.empty w (Nat.le_refl _)) (HV.out.below ((Below.refl _ _).alloc (Nat.le_refl _) _)) (by simp) (by rw [HL.out]; omega) ?_; intro v1 w1 O1 B1; rw [List.nil_append] at O1; obtain ⟨g, cap, rfl, c1, c2, c3, c4, c5⟩ := O1.its (by rw [HL.out]; omega); have HA1 : Hid (Ar w1 g 0 .i64 (cf (128 + m) N)) := c5; rw [HL.out] at c1 ⊢; clear O1 c5)
  have BW : Below w.heap.size w w1 := ((Below.refl _ _).alloc (Nat.le_refl _) _).trans B1
  have hgB : w.heap.size ≤ g := c3
  obtain ⟨M, hM⟩ : ∃ M, M = 128 + m := ⟨_, rfl⟩
  have m8 : (128 : Int) ≤ (M : Int) ∧ (M : Int) ≤ 256 := by omega
  have eM : (128 : Int) + (m : Int) = (M : Int) := by omega
  rw [← hM] at c1 HA1 HL ⊢
  have HM : Hid (M = 128 + m) := hM
  clear HV B1 c3 c4 hM eM
  go_loopw [4] (fun i wr => ∃ j X : Nat, j ≤ m ∧ i = .int .i64 (127 + (j : Int)) ∧ lf X j = lf N m ∧ Ar wr g 0 .i64 (cf M X) ∧ Below w.heap.size w wr) (fun i _ => (intOf i - 127).toNat)
  case atStart => exact ⟨m, N, Nat.le_refl _, by have := HM.out; go_num, rfl, HA1.out, BW⟩
  case round =>
    obtain ⟨j, X, hj, rfl, hX, hA, hB⟩ := hrel
    obtain ⟨wa, rfl⟩ : ∃ wx, wx = wr := ⟨_, rfl⟩
    have HX : Hid (lf X j = lf N m) := hX
    have HA : Hid (Ar wa g 0 .i64 (cf M X)) := hA
    have HB : Hid (Below w.heap.size w wa) := hB
    clear hX hA hB
    by_cases hlt : 0 < j
    · obtain ⟨k, rfl⟩ : ∃ k, j = k + 1 := ⟨j - 1, by omega⟩
      obtain ⟨I, hI⟩ : ∃ I, I = 128 + k := ⟨_, rfl⟩
      have e0 : (127 : Int) + ((k + 1 : Nat) : Int) = (I : Int) := by omega
      rw [e0]
      have HXs : Hid (lf (rs X I) k = lf N m) := by show _ = _; rw [hI]; exact HX.out
      have iM : I < M := by have := HM.out; omega
      have i0 : (128 : Int) ≤ (I : Int) := by omega
      have i1 : (I : Int) < (M : Int) := by omega
      have qI : IntKind.i64.wrap ((I : Int) - 1) = (I : Int) - 1 := by rw [IntKind.wrap_i64]; omega
      have cI : wa.cell? ⟨g, I, none⟩ = some (.int .i64 (b01 (X.testBit I))) := by
        have := HA.out.cell0 I (by rw [HL.out]; exact iM)
        rwa [cf_gb _ _ _ iM] at this
      cases hbit : X.testBit I with
      | true =>
        rw [hbit] at cI
        have cI' : wa.cell? ⟨g, I, none⟩ = some (.int .i64 1) := cI
        clear cI
        have hrs : rs X I = ((X ^^^ 2 ^ k) ^^^ 2 ^ (k + 1)) ^^^ 2 ^ (k + 2) ^^^ 2 ^ (k + 7) := by rw [hI] at hbit ⊢; exact rs_yes X k hbit
        rw [hrs] at HXs
        obtain ⟨k1, hk1⟩ : ∃ x, x = k + 1 := ⟨_, rfl⟩
        obtain ⟨k2, hk2⟩ : ∃ x, x = k + 2 := ⟨_, rfl⟩
        obtain ⟨k7, hk7⟩ : ∃ x, x = k + 7 := ⟨_, rfl⟩
        rw [← hk1, ← hk2, ← hk7] at HXs
        have HF : Hid ((cf M X).set k (1 - b01 (X.testBit k)) = cf M (X ^^^ 2 ^ k) ∧ (cf M (X ^^^ 2 ^ k)).set k1 (1 - b01 ((X ^^^ 2 ^ k).testBit k1)) = cf M ((X ^^^ 2 ^ k) ^^^ 2 ^ k1) ∧ (cf M ((X ^^^ 2 ^ k) ^^^ 2 ^ k1)).set k2 (1 - b01 (((X ^^^ 2 ^ k) ^^^ 2 ^ k1).testBit k2)) = cf M (((X ^^^ 2 ^ k) ^^^ 2 ^ k1) ^^^ 2 ^ k2) ∧ (cf M (((X ^^^ 2 ^ k) ^^^ 2 ^ k1) ^^^ 2 ^ k2)).set k7 (1 - b01 ((((X ^^^ 2 ^ k) ^^^ 2 ^ k1) ^^^ 2 ^ k2).testBit k7)) = cf M ((((X ^^^ 2 ^ k) ^^^ 2 ^ k1) ^^^ 2 ^ k2) ^^^ 2 ^ k7)) := ⟨cf_flip _ _ _, cf_flip _ _ _, cf_flip _ _ _, cf_flip _ _ _⟩
        have HLN : Hid ((cf M X).length = M ∧ (cf M (X ^^^ 2 ^ k)).length = M ∧ (cf M ((X ^^^ 2 ^ k) ^^^ 2 ^ k1)).length = M ∧ (cf M (((X ^^^ 2 ^ k) ^^^ 2 ^ k1) ^^^ 2 ^ k2)).length = M) := ⟨HL.out _, HL.out _, HL.out _, HL.out _⟩
        have HY : Hid (gb (cf M (X ^^^ 2 ^ k)) k1 = b01 ((X ^^^ 2 ^ k).testBit k1) ∧ gb (cf M ((X ^^^ 2 ^ k) ^^^ 2 ^ k1)) k2 = b01 (((X ^^^ 2 ^ k) ^^^ 2 ^ k1).testBit k2) ∧ gb (cf M (((X ^^^ 2 ^ k) ^^^ 2 ^ k1) ^^^ 2 ^ k2)) k7 = b01 ((((X ^^^ 2 ^ k) ^^^ 2 ^ k1) ^^^ 2 ^ k2).testBit k7)) := ⟨cf_gb _ _ _ (by omega), cf_gb _ _ _ (by omega), cf_gb _ _ _ (by omega)⟩
        have d1 : wa.cell? ⟨g, k, none⟩ = some (.int .i64 (b01 (X.testBit k))) := by
          have := HA.out.cell0 k (by rw [HL.out]; omega)
          rwa [cf_gb _ _ _ (by omega)] at this
        have y0b := b01_bd (X.testBit k)
        have y1b := b01_bd ((X ^^^ 2 ^ k).testBit k1)
        have y2b := b01_bd (((X ^^^ 2 ^ k) ^^^ 2 ^ k1).testBit k2)
        have y7b := b01_bd ((((X ^^^ 2 ^ k) ^^^ 2 ^ k1) ^^^ 2 ^ k2).testBit k7)
        have u1 : (I : Int) - 128 = (k : Int) := by omega
        have u2 : (I : Int) - 127 = (k1 : Int) := by omega
        have u3' : (I : Int) - 126 = (k2 : Int) := by omega
        have u4' : (I : Int) - 121 = (k7 : Int) := by omega
        have v1 : IntKind.i64.wrap (k : Int) = (k : Int) := by rw [IntKind.wrap_i64]; omega
        have v2 : IntKind.i64.wrap (k1 : Int) = (k1 : Int) := by rw [IntKind.wrap_i64]; omega
        have v3 : IntKind.i64.wrap (k2 : Int) = (k2 : Int) := by rw [IntKind.wrap_i64]; omega
        have v4 : IntKind.i64.wrap (k7 : Int) = (k7 : Int) := by rw [IntKind.wrap_i64]; omega
        have x1 : (k : Int) < (M : Int) := by omega
        have x2 : (k1 : Int) < (M : Int) := by omega
        have x3 : (k2 : Int) < (M : Int) := by omega
        have x4 : (k7 : Int) < (M : Int) := by omega
        have HKB : Hid (k < M ∧ k1 < M ∧ k2 < M ∧ k7 < M) := ⟨by omega, by omega, by omega, by omega⟩
        have HI : Hid (I = 128 + k) := hI
        clear hrs hbit hk1 hk2 hk7 hI e0
        obtain ⟨X4, hX4⟩ : ∃ Y, Y = (((X ^^^ 2 ^ k) ^^^ 2 ^ k1) ^^^ 2 ^ k2) ^^^ 2 ^ k7 := ⟨_, rfl⟩
        rw [← hX4] at HF HXs
        clear hX4
        generalize cf M (((X ^^^ 2 ^ k) ^^^ 2 ^ k1) ^^^ 2 ^ k2) = L3 at *
        generalize cf M ((X ^^^ 2 ^ k) ^^^ 2 ^ k1) = L2 at *
        generalize cf M (X ^^^ 2 ^ k) = L1 at *
        generalize cf M X = L0 at *
        generalize b01 ((((X ^^^ 2 ^ k) ^^^ 2 ^ k1) ^^^ 2 ^ k2).testBit k7) = y7 at *
        generalize b01 (((X ^^^ 2 ^ k) ^^^ 2 ^ k1).testBit k2) = y2 at *
        generalize b01 ((X ^^^ 2 ^ k).testBit k1) = y1 at *
        generalize b01 (X.testBit k) = y0 at *
        go_wp2_with (first
            | (have q4 := t4; refine set_lawF _ rfl (.tmp 59) (.tmp 58) 3 rfl .i64 _ g k7 L3 rfl rfl HA4.out (by rw [HLN.out.2.2.2]; omega) i_int ?_; intro w5 A5 B5; rw [HF.out.2.2.2] at A5; have HA5 : Hid (Ar w5 g 0 .i64 (cf M X4)) := A5; have HB5 : Hid (Below w.heap.size w w5) := HB4.out.trans (B5.mono (by omega)); have t5 : (0 : Nat) = 0 := rfl; clear A5 B5)
            | (have q3 := t3; refine set_lawF _ rfl (.tmp 49) (.tmp 48) 3 rfl .i64 _ g k2 L2 rfl rfl HA3.out (by rw [HLN.out.2.2.1]; omega) i_int ?_; intro w4 A4 B4; rw [HF.out.2.2.1] at A4; have d4 := A4.cell0 k7 (by rw [HLN.out.2.2.2]; omega); rw [HY.out.2.2] at d4; have HA4 : Hid (Ar w4 g 0 .i64 L3) := A4; have HB4 : Hid (Below w.heap.size w w4) := HB3.out.trans (B4.mono (by omega)); have t4 : (0 : Nat) = 0 := rfl; clear A4 B4)
            | (have q2 := t2; refine set_lawF _ rfl (.tmp 39) (.tmp 38) 3 rfl .i64 _ g k1 L1 rfl rfl HA2.out (by rw [HLN.out.2.1]; omega) i_int ?_; intro w3 A3 B3; rw [HF.out.2.1] at A3; have d3 := A3.cell0 k2 (by rw [HLN.out.2.2.1]; omega); rw [HY.out.2.1] at d3; have HA3 : Hid (Ar w3 g 0 .i64 L2) := A3; have HB3 : Hid (Below w.heap.size w w3) := HB2.out.trans (B3.mono (by omega)); have t3 : (0 : Nat) = 0 := rfl; clear A3 B3)
            | (refine set_lawF _ rfl (.tmp 29) (.tmp 28) 3 rfl .i64 _ g k L0 rfl rfl HA.out (by rw [HLN.out.1]; omega) i_int ?_; intro w2 A2 B2; rw [HF.out.1] at A2; have d2 := A2.cell0 k1 (by rw [HLN.out.2.1]; omega); rw [HY.out.1] at d2; have HA2 : Hid (Ar w2 g 0 .i64 L1) := A2; have HB2 : Hid (Below w.heap.size w w2) := HB.out.trans (B2.mono (by omega)); have t2 : (0 : Nat) = 0 := rfl; clear A2 B2))

        go_roundw
        case rel => exact ⟨k, X4, by omega, by go_num, HXs.out, HA5.out, HB5.out⟩
        case measure => simp [intOf]; omega
      | false =>
        rw [hbit] at cI
        have cI' : wa.cell? ⟨g, I, none⟩ = some (.int .i64 0) := cI
        clear cI
        have hrs : rs X I = X := by rw [hI] at hbit ⊢; exact rs_not X k hbit
        rw [hrs] at HXs
        have HI : Hid (I = 128 + k) := hI
        clear hrs hbit hI e0
        go_wp2
        go_roundw
        case rel => exact ⟨k, X, by omega, by have := HI.out; go_num, HXs.out, HA.out, HB.out⟩
        case measure => simp [intOf]; omega
    · have hj0 : j = 0 := by omega
      subst hj0
      have HX2 : Hid (X = lf N m) := HX.out
      go_wp2
      go_ret
      rw [← HX2.out]
      have hA4 : Ar wa g 0 .i64 (cf 128 X) := by
        have := HA.out.subG 0 (cf 128 X) (by rw [HL.out, cf_len]; omega) (fun t ht => by
          rw [cf_len] at ht
          rw [Nat.zero_add, cf_gb _ _ _ ht, cf_gb _ _ _ (by omega)])
        exact this
      refine ⟨_, rfl, ⟨g, cap, ?_, by rw [cf_len]; omega, c2, hA4, hA4.lt (by rw [cf_len]; omega)⟩, HB.out⟩
      rw [cf_len]
      rfl
end Go.Proofs.Ytjojimffolagmaa
