/- What twice's times of polynomials answers. No claim of its own. -/
import Derived.Test.YtjojimffolagmaaTMul
namespace Go.Proofs.Ytjojimffolagmaa
open Go.RowKit

section
variable {ops : Array Oper} {rest : List Oper} {o : Oper} {a : Act} {Q : Exit → Act → World → Prop}
/-- a whole array is written; what lies in other blocks stays -/
theorem store_lawK (w : World) (hg : o.guard = none) (x y : Operand) (t : TypeId) (hop : o.op = Op.store t x y) (k : IntKind) (xs ys : List Int) (b : Nat) (hx : a.eval x = .pointer (some ⟨b, 0, none⟩)) (hy : a.eval y = .agg (ints k ys))
    (hA : Ar w b 0 k xs) (n : Nat) (hi : (Try.prog.info? t).map (·.size) = some n) (hl : xs.length = n) (hn : ys.length = n)
    (hK : ∀ w', Ar w' b 0 k ys → Below b w w' → (∀ b' o' k' zs, b' ≠ b → Ar w b' o' k' zs → Ar w' b' o' k' zs) → wpList Try.prog ops Q rest (a.put o.dst undef) w') :
    wpList Try.prog ops Q (o :: rest) a w := by
  have ht : w.there b 0 ys.length := by rw [hn, ← hl]; exact hA.2
  exact store_law w hg x y t hop k ys b 0 hx hy ht n hi hn (hK _ (Ar.whole ht) (below_cells _ (Nat.le_refl _) _ _ (Below.refl _ _)) fun b' o' k' zs hb h => h.apart b 0 _ (Or.inl hb))
end

set_option linter.unusedSimpArgs false in
set_option maxRecDepth 20000 in
set_option maxHeartbeats 4000000 in
theorem ttim_any (P Q : Nat) (w : World) (hp : P < 2 ^ 128) :
    Calls Try.prog 25 #[.agg (ints .u8 (bt16 P)), .agg (ints .u8 (bt16 Q))] w fun e w' => e = .returned (.agg (ints .u8 (bt16 (tp P Q)))) ∧ Below w.heap.size w w' := by
  have HS : Hid (∀ k, bt16 (tgf (k + 1) P Q) = if Q.testBit k then bt16 (tgf k P Q ^^^ tdn P k) else bt16 (tgf k P Q)) := fun k => by
    rw [tgf_snoc]
    cases Q.testBit k
    · simp [sel]
    · simp [sel]
  have HLT : Hid (∀ k, tgf k P Q < 2 ^ 128 ∧ tdn P k < 2 ^ 128) := fun k => ⟨tgf_lt k P Q hp, tdn_lt P k hp⟩
  have HB : Hid (∀ i j, i < 16 → j < 8 → ∃ b : Nat, gb (bt16 Q) i = (b : Int) ∧ b < 256 ∧ b.testBit j = Q.testBit (8 * i + j)) := fun i j hi hj =>
    ⟨_, bt16_gb Q i hi, Nat.mod_lt _ (by decide), part_bit Q i j hj⟩
  have H0 : Hid (bt16 (tgf 0 P Q) = z16 ∧ bt16 (tdn P 0) = bt16 P ∧ bt16 (tgf 128 P Q) = bt16 (tp P Q)) := ⟨bt16_zero, rfl, rfl⟩
  have L1 : Hid (∀ n, (bt16 n).length = 16) := bt16_len
  have HZL : Hid ((bt16 (tp P Q)).length = 16) := bt16_len _
  clear hp
  generalize bt16 (tp P Q) = zs at *
  go_enter Try.func25, Try.ntmps25
  go_wp2_with (first
    | (have q3 := s3; refine new_lawF _ rfl 40 rfl .u8 z16 z_poly ?_; intro w4 A4 B4 s4; have HA4 : Hid (Ar w4 w3.heap.size 0 .u8 z16) := A4; clear A4)
    | (have q2 := s2; refine new_lawF _ rfl 40 rfl .u8 z16 z_poly ?_; intro w3 A3 B3 s3; have HA3 : Hid (Ar w3 w2.heap.size 0 .u8 z16) := A3; clear A3)
    | (refine box_lawF _ rfl (.tmp 0) 40 rfl .u8 (bt16 P) rfl ?_; intro w1 A1 B1 s1; have HA1 : Hid (Ar w1 w.heap.size 0 .u8 (bt16 P)) := A1; clear A1)
    | (refine box_lawF _ rfl (.tmp 1) 40 rfl .u8 (bt16 Q) rfl ?_; intro w2 A2 B2 s2; have HA2 : Hid (Ar w2 w1.heap.size 0 .u8 (bt16 Q)) := A2; clear A2)
    | (refine load_law _ rfl (.tmp 3) 40 rfl .u8 (bt16 Q) w1.heap.size 0 rfl ((HA2.out.below B3 s2).below B4 (by omega)) 16 5 Try.underlying40 i_poly (L1.out _) ?_))
  have D1 : Hid (Ar w4 w.heap.size 0 .u8 (bt16 P)) := ((HA1.out.below B2 s1).below B3 (by omega)).below B4 (by omega)
  have D3 : Hid (Ar w4 w2.heap.size 0 .u8 z16) := HA3.out.below B4 s3
  have BW : Below w.heap.size w w4 := ((B1.trans (B2.mono (by omega))).trans (B3.mono (by omega))).trans (B4.mono (by omega))
  have o4 : w3.heap.size < w4.heap.size := s4
  have o3 : w2.heap.size < w3.heap.size := s3
  have o2 : w1.heap.size < w2.heap.size := s2
  have o1 : w.heap.size < w1.heap.size := s1
  generalize hg0 : w.heap.size = g0 at *
  generalize w3.heap.size = g3 at *
  generalize w2.heap.size = g2 at *
  generalize w1.heap.size = g1 at *
  go_loopw [10] (fun i wr => ∃ k : Nat, k ≤ 16 ∧ i = .int .i64 k ∧ Ar wr g0 0 .u8 (bt16 (tdn P (8 * k))) ∧ Ar wr g3 0 .u8 (bt16 (tgf (8 * k) P Q)) ∧ Ar wr g2 0 .u8 z16 ∧ Below g0 w wr ∧ g3 < wr.heap.size) (fun i _ => 16 - (intOf i).toNat)
  case atStart => exact ⟨0, Nat.zero_le _, rfl, D1.out, by rw [Nat.mul_zero, H0.out.1]; exact HA4.out, D3.out, BW, o4⟩
  case round =>
    obtain ⟨k, hk, rfl, hA, hC, hR, hB, hG⟩ := hrel
    obtain ⟨wa, rfl⟩ : ∃ wx, wx = wr := ⟨_, rfl⟩
    have k0 : (0 : Int) ≤ (k : Int) := by omega
    have q1 : IntKind.i64.wrap (k : Int) = k := by rw [IntKind.wrap_i64]; omega
    have HA : Hid (Ar wa g0 0 .u8 (bt16 (tdn P (8 * k + 0)))) := hA
    have HC : Hid (Ar wa g3 0 .u8 (bt16 (tgf (8 * k + 0) P Q))) := hC
    have HR : Hid (Ar wa g2 0 .u8 z16) := hR
    have HBl : Hid (Below g0 w wa) := hB
    clear hA hC hR hB
    by_cases hlt : k < 16
    · have k1 : (k : Int) < 16 := by omega
      obtain ⟨b, hb, hb8, -⟩ := HB.out k 0 hlt (by omega)
      have HGB : Hid ((b : Int) = gb (bt16 Q) k) := hb.symm
      have HBB : Hid (∀ j, j < 8 → b.testBit j = Q.testBit (8 * k + j)) := fun j hj => by
        obtain ⟨b', hb', -, hbit⟩ := HB.out k j hlt hj
        have : b = b' := by omega
        rw [this]; exact hbit
      have HB8 : Hid (b < 256) := hb8
      clear hb
      go_wp2_with (refine idx16 _ rfl (.tmp 9) (.tmp 10) rfl (bt16 Q) _ k rfl rfl rfl (L1.out _) hlt b HGB.out ?_)
      go_loopw [13] (fun j wr => ∃ m : Nat, m ≤ 8 ∧ j = .int .i64 m ∧ Ar wr g0 0 .u8 (bt16 (tdn P (8 * k + m))) ∧ Ar wr g3 0 .u8 (bt16 (tgf (8 * k + m) P Q)) ∧ Ar wr g2 0 .u8 z16 ∧ Below g0 w wr ∧ g3 < wr.heap.size) (fun j _ => 8 - (intOf j).toNat)
      case atStart => exact ⟨0, Nat.zero_le _, rfl, HA.out, HC.out, HR.out, HBl.out, hG⟩
      case round =>
        obtain ⟨m, hm, rfl, hA', hC', hR', hB', hG'⟩ := hrel
        obtain ⟨wb, rfl⟩ : ∃ wx, wx = wr := ⟨_, rfl⟩
        have m0 : (0 : Int) ≤ (m : Int) := by omega
        have q2 : IntKind.i64.wrap (m : Int) = m := by rw [IntKind.wrap_i64]; omega
        have HA' : Hid (Ar wb g0 0 .u8 (bt16 (tdn P (8 * k + m)))) := hA'
        have HC' : Hid (Ar wb g3 0 .u8 (bt16 (tgf (8 * k + m) P Q))) := hC'
        have HR' : Hid (Ar wb g2 0 .u8 z16) := hR'
        have HB' : Hid (Below g0 w wb) := hB'
        clear hA' hC' hR' hB' HA HC HR HBl
        by_cases hmt : m < 8
        · have m1 : (m : Int) < 8 := by omega
          have hask := ask_bit b HB8.out m hmt
          have HSk := HS.out (8 * k + m)
          have hlt1 := (HLT.out (8 * k + m)).1
          have hlt2 := (HLT.out (8 * k + m)).2
          have HCD : Hid (∀ w', Calls Try.prog 20 #[.agg (ints .u8 (bt16 (tdn P (8 * k + m))))] w' fun e w'' => e = .returned (.agg (ints .u8 (bt16 (tdn P (8 * k + (m + 1)))))) ∧ Below w'.heap.size w' w'') := fun w' => pdbl_any _ w' hlt2
          have HCP : Hid (∀ w', Calls Try.prog 26 #[.agg (ints .u8 (bt16 (tgf (8 * k + m) P Q))), .agg (ints .u8 (bt16 (tdn P (8 * k + m))))] w' fun e w'' => e = .returned (.agg (ints .u8 (bt16 (tgf (8 * k + m) P Q ^^^ tdn P (8 * k + m))))) ∧ Below w'.heap.size w' w'') := fun w' => pplus_any _ _ w' hlt1 hlt2
          rw [HBB.out m hmt] at hask
          cases hbit : Q.testBit (8 * k + m) with
          | true =>
            rw [hbit, if_pos rfl] at hask HSk
            rw [show 8 * k + m + 1 = 8 * k + (m + 1) by omega] at HSk
            have HSK : Hid (bt16 (tgf (8 * k + (m + 1)) P Q) = bt16 (tgf (8 * k + m) P Q ^^^ tdn P (8 * k + m))) := HSk
            have L2 := bt16_len (tgf (8 * k + m) P Q ^^^ tdn P (8 * k + m))
            have HL2 : Hid ((bt16 (tgf (8 * k + m) P Q)).length = 16 ∧ (bt16 (tdn P (8 * k + m))).length = 16 ∧ (bt16 (tdn P (8 * k + (m + 1)))).length = 16 ∧ (bt16 (tgf (8 * k + m) P Q ^^^ tdn P (8 * k + m))).length = 16) := ⟨bt16_len _, bt16_len _, bt16_len _, bt16_len _⟩
            clear HSk hbit hlt1 hlt2 L2
            generalize bt16 (tgf (8 * k + m) P Q ^^^ tdn P (8 * k + m)) = t2 at *
            generalize bt16 (tgf (8 * k + m) P Q) = t0 at *
            generalize bt16 (tdn P (8 * k + m)) = p0 at *
            go_wp2_with (first
              | (have q8 := s8; refine store_lawK _ rfl (.tmp 2) (.tmp 25) 40 rfl .u8 p0 _ g0 rfl rfl HA8.out 16 i_poly HL2.out.2.1 HL2.out.2.2.1 ?_; intro w9 A9 B9 O9; have HA9 : Hid (Ar w9 g0 0 .u8 (bt16 (tdn P (8 * k + (m + 1))))) := A9; have HC9 : Hid (Ar w9 g3 0 .u8 t2) := O9 _ _ _ _ (by omega) HC8.out; have HR9 : Hid (Ar w9 g2 0 .u8 z16) := O9 _ _ _ _ (by omega) HR8.out; have HB9 : Hid (Below g0 w w9) := HB8'.out.trans B9; have o9 : g3 < w9.heap.size := HC9.out.lt (by rw [HL2.out.2.2.2]; omega); clear A9 B9 O9)
              | (have q7 := o7; go_at_call 20; refine (HCD.out _).mono ?_; rintro e w8 ⟨rfl, B8⟩; have s8 := B8.size; have HA8 : Hid (Ar w8 g0 0 .u8 p0) := HA7.out.below B8 (by omega); have HC8 : Hid (Ar w8 g3 0 .u8 t2) := HC7.out.below B8 (by omega); have HR8 : Hid (Ar w8 g2 0 .u8 z16) := HR7.out.below B8 (by omega); have HB8' : Hid (Below g0 w w8) := HB7.out.trans (B8.mono (by omega)); clear B8)
              | (have q7 := o7; refine load_law _ rfl (.tmp 2) 40 rfl .u8 p0 g0 0 rfl HA7.out 16 5 Try.underlying40 i_poly HL2.out.2.1 ?_)
              | (have q6 := s6; refine store_lawK _ rfl (.tmp 5) (.tmp 23) 40 rfl .u8 t0 t2 g3 rfl rfl HC6.out 16 i_poly HL2.out.1 HL2.out.2.2.2 ?_; intro w7 A7 B7 O7; have HA7 : Hid (Ar w7 g0 0 .u8 p0) := O7 _ _ _ _ (by omega) HA6.out; have HR7 : Hid (Ar w7 g2 0 .u8 z16) := O7 _ _ _ _ (by omega) HR6.out; have HC7 : Hid (Ar w7 g3 0 .u8 t2) := A7; have o7 : g3 < w7.heap.size := A7.lt (by rw [HL2.out.2.2.2]; omega); have HB7 : Hid (Below g0 w w7) := HB6.out.trans (B7.mono (by omega)); clear A7 B7 O7)
              | (go_at_call 26; refine (HCP.out _).mono ?_; rintro e w6 ⟨rfl, B6⟩; have s6 := B6.size; have HA6 : Hid (Ar w6 g0 0 .u8 p0) := HA'.out.below B6 (by omega); have HC6 : Hid (Ar w6 g3 0 .u8 t0) := HC'.out.below B6 (by omega); have HR6 : Hid (Ar w6 g2 0 .u8 z16) := HR'.out.below B6 (by omega); have HB6 : Hid (Below g0 w w6) := HB'.out.trans (B6.mono (by omega)); clear B6)
              | (refine load_law _ rfl (.tmp 5) 40 rfl .u8 t0 g3 0 rfl HC'.out 16 5 Try.underlying40 i_poly HL2.out.1 ?_)
              | (refine load_law _ rfl (.tmp 2) 40 rfl .u8 p0 g0 0 rfl HA'.out 16 5 Try.underlying40 i_poly HL2.out.2.1 ?_))
            go_roundw
            case rel => exact ⟨m + 1, by omega, by go_num, HA9.out, by rw [HSK.out]; exact HC9.out, HR9.out, HB9.out, o9⟩
            case measure => simp [intOf]; omega
          | false =>
            rw [hbit, if_neg (by decide)] at hask HSk
            rw [show 8 * k + m + 1 = 8 * k + (m + 1) by omega] at HSk
            have HSK : Hid (bt16 (tgf (8 * k + (m + 1)) P Q) = bt16 (tgf (8 * k + m) P Q)) := HSk
            have HL2 : Hid ((bt16 (tgf (8 * k + m) P Q)).length = 16 ∧ (bt16 (tdn P (8 * k + m))).length = 16 ∧ (bt16 (tdn P (8 * k + (m + 1)))).length = 16) := ⟨bt16_len _, bt16_len _, bt16_len _⟩
            clear HSk hbit hlt1 hlt2 HCP
            generalize bt16 (tgf (8 * k + m) P Q) = t0 at *
            generalize bt16 (tdn P (8 * k + m)) = p0 at *
            go_wp2_with (first
              | (have q8 := s8; refine store_lawK _ rfl (.tmp 2) (.tmp 25) 40 rfl .u8 p0 _ g0 rfl rfl HA8.out 16 i_poly HL2.out.2.1 HL2.out.2.2 ?_; intro w9 A9 B9 O9; have HA9 : Hid (Ar w9 g0 0 .u8 (bt16 (tdn P (8 * k + (m + 1))))) := A9; have HC9 : Hid (Ar w9 g3 0 .u8 t0) := O9 _ _ _ _ (by omega) HC8.out; have HR9 : Hid (Ar w9 g2 0 .u8 z16) := O9 _ _ _ _ (by omega) HR8.out; have HB9 : Hid (Below g0 w w9) := HB8'.out.trans B9; have o9 : g3 < w9.heap.size := HC9.out.lt (by rw [HL2.out.1]; omega); clear A9 B9 O9)
              | (go_at_call 20; refine (HCD.out _).mono ?_; rintro e w8 ⟨rfl, B8⟩; have s8 := B8.size; have HA8 : Hid (Ar w8 g0 0 .u8 p0) := HA'.out.below B8 (by omega); have HC8 : Hid (Ar w8 g3 0 .u8 t0) := HC'.out.below B8 (by omega); have HR8 : Hid (Ar w8 g2 0 .u8 z16) := HR'.out.below B8 (by omega); have HB8' : Hid (Below g0 w w8) := HB'.out.trans (B8.mono (by omega)); clear B8)
              | (refine load_law _ rfl (.tmp 2) 40 rfl .u8 p0 g0 0 rfl HA'.out 16 5 Try.underlying40 i_poly HL2.out.2.1 ?_))
            go_roundw
            case rel => exact ⟨m + 1, by omega, by go_num, HA9.out, by rw [HSK.out]; exact HC9.out, HR9.out, HB9.out, o9⟩
            case measure => simp [intOf]; omega
        · have hm8 : m = 8 := by omega
          subst hm8
          rw [show 8 * k + 8 = 8 * (k + 1) by omega] at HA' HC'
          go_wp2
          go_roundw
          case rel => exact ⟨k + 1, by omega, by go_num, HA'.out, HC'.out, HR'.out, HB'.out, hG'⟩
          case measure => simp [intOf]; omega
    · have hk16 : k = 16 := by omega
      subst hk16
      have HC2 : Hid (Ar wa g3 0 .u8 zs) := by have := HC.out; rw [show 8 * 16 + 0 = 128 from rfl, H0.out.2.2] at this; exact this
      clear HC HA
      go_wp2_with (first
        | (refine load_law _ rfl (.tmp 5) 40 rfl .u8 zs g3 0 rfl HC2.out 16 5 Try.underlying40 i_poly HZL.out ?_)
        | (refine store_lawF _ rfl (.tmp 4) (.tmp 28) 40 rfl .u8 z16 zs g2 rfl rfl HR.out 16 i_poly z16_len HZL.out ?_; intro w7 A7 B7))
      refine bodyPost_ret (v := .agg (ints .u8 zs)) (results_ar rfl _ _ g2 0 .u8 zs rfl A7 16 5 Try.underlying40 i_poly HZL.out) rfl ⟨rfl, ?_⟩
      rw [hg0]
      exact HBl.out.trans (B7.mono (by omega))
end Go.Proofs.Ytjojimffolagmaa
