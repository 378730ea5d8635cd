/- Texts put together (a claim holds few files). No claim of its own. -/
import Derived.Test.YtifepmdhbhdjpaaPackF
import Derived.Test.YtifepmdhbhdjpaaPackB
import Derived.Test.YtifepmdhbhdjpaaPackE
import Derived.Test.YtifepmdhbhdjpaaPackA
/- Words of four bytes as numbers: xored, put for, rotated. No claim of its own. -/
namespace Go.Proofs.Ytifepmdhbhdjpaa
open Go.RowKit
set_option maxRecDepth 20000

/-- the number of four bytes, the greatest first -/
def n4 (x : List Int) : Nat := (gb x 0).toNat * 16777216 + (gb x 1).toNat * 65536 + (gb x 2).toNat * 256 + (gb x 3).toNat
theorem wd_bd {x : List Int} (h : Wd x) (i : Nat) : (gb x i).toNat < 256 ∧ gb x i = ((gb x i).toNat : Int) := by have := h.2 i; omega
theorem n4_lt (x : List Int) (h : Wd x) : n4 x < 4294967296 := by
  have h0 := (wd_bd h 0).1
  have h1 := (wd_bd h 1).1
  have h2 := (wd_bd h 2).1
  have h3 := (wd_bd h 3).1
  unfold n4; omega
theorem join_xor (k a b c d : Nat) (hb : b < 2 ^ k) (hd : d < 2 ^ k) : (2 ^ k * a + b) ^^^ (2 ^ k * c + d) = 2 ^ k * (a ^^^ c) + (b ^^^ d) := by
  apply Nat.eq_of_testBit_eq
  intro j
  rw [Nat.testBit_xor, Nat.testBit_two_pow_mul_add a hb j, Nat.testBit_two_pow_mul_add c hd j, Nat.testBit_two_pow_mul_add (a ^^^ c) (Nat.xor_lt_two_pow hb hd) j]
  by_cases h : j < k
  · simp [h]
  · simp [h]
theorem n4_form (x : List Int) : n4 x = 2 ^ 8 * (2 ^ 8 * (2 ^ 8 * (gb x 0).toNat + (gb x 1).toNat) + (gb x 2).toNat) + (gb x 3).toNat := by unfold n4; omega
theorem n4_xor (x y : List Int) (hx : Wd x) (hy : Wd y) : n4 (xorl x y) = n4 x ^^^ n4 y := by
  have hl : x.length = y.length := by rw [hx.1, hy.1]
  have e : ∀ i, i < 4 → (gb (xorl x y) i).toNat = (gb x i).toNat ^^^ (gb y i).toNat := fun i hi => by
    rw [xorl_gb x y hl i (by rw [hx.1]; exact hi)]
    simp [xr]
  have x1 := (wd_bd hx 1).1
  have x2 := (wd_bd hx 2).1
  have x3 := (wd_bd hx 3).1
  have y1 := (wd_bd hy 1).1
  have y2 := (wd_bd hy 2).1
  have y3 := (wd_bd hy 3).1
  rw [n4_form, n4_form x, n4_form y, e 0 (by omega), e 1 (by omega), e 2 (by omega), e 3 (by omega), join_xor 8 _ _ _ _ x3 y3, join_xor 8 _ _ _ _ x2 y2, join_xor 8 _ _ _ _ x1 y1]
theorem wb_n4 (x : List Int) (h : Wd x) : wb (n4 x) 0 = (gb x 3).toNat ∧ wb (n4 x) 1 = (gb x 2).toNat ∧ wb (n4 x) 2 = (gb x 1).toNat ∧ wb (n4 x) 3 = (gb x 0).toNat := by
  have h0 := (wd_bd h 0).1
  have h1 := (wd_bd h 1).1
  have h2 := (wd_bd h 2).1
  have h3 := (wd_bd h 3).1
  unfold wb n4
  refine ⟨?_, ?_, ?_, ?_⟩ <;> omega
theorem wsum_n4 (x : List Int) (h : Wd x) : wsum (n4 x) 4 = n4 (looked ptab x) := by
  obtain ⟨e0, e1, e2, e3⟩ := wb_n4 x h
  have g : ∀ i, i < 4 → (gb (looked ptab x) i).toNat = sb (gb x i).toNat := fun i hi => by
    rw [looked_gb _ _ _ (by rw [h.1]; exact hi), gb_p _ (wd_bd h i).1, Int.toNat_natCast]
  simp only [wsum, e0, e1, e2, e3]
  rw [n4, g 0 (by omega), g 1 (by omega), g 2 (by omega), g 3 (by omega)]
  omega
/-- rotated by one byte -/
def rot1 (x : List Int) : List Int := [gb x 1, gb x 2, gb x 3, gb x 0]
theorem rot1_wd (x : List Int) (h : Wd x) : Wd (rot1 x) := wd4 _ _ _ _ (h.2 1) (h.2 2) (h.2 3) (h.2 0)
theorem n4_rot (x : List Int) (h : Wd x) : n4 (rot1 x) = n4 x * 256 % 4294967296 + n4 x / 16777216 := by
  have h0 := (wd_bd h 0).1
  have h1 := (wd_bd h 1).1
  have h2 := (wd_bd h 2).1
  have h3 := (wd_bd h 3).1
  show (gb x 1).toNat * 16777216 + (gb x 2).toNat * 65536 + (gb x 3).toNat * 256 + (gb x 0).toNat = _
  unfold n4
  omega
theorem four_gb (x : List Int) (h : x.length = 4) : x = [gb x 0, gb x 1, gb x 2, gb x 3] := by
  match x, h with
  | [a, b, c, d], _ => rfl
theorem looked_wd (x : List Int) (h : x.length = 4) : Wd (looked ptab x) := ⟨by rw [looked_len, h], looked_all _ _ pAll⟩
/-- what is xored to the word eight ahead, as a number -/
theorem n4_mid (i : Nat) (x : List Int) (h : Wd x) : n4 (mid i x) = if i % 8 = 0 then wsum (n4 x * 256 % 4294967296 + n4 x / 16777216) 4 ^^^ pw 2 (i / 8 - 1) * 16777216 else if i % 8 = 4 then wsum (n4 x) 4 else n4 x := by
  by_cases h0 : i % 8 = 0
  · rw [if_pos h0, ← n4_rot x h, wsum_n4 _ (rot1_wd x h)]
    have hp := pw_lt 2 (i / 8 - 1)
    have hr := looked_wd (rot1 x) rfl
    have e : mid i x = xorl (looked ptab (rot1 x)) [(pw 2 (i / 8 - 1) : Int), 0, 0, 0] := by
      have hz : ∀ a : Int, 0 ≤ a → xr a 0 = a := fun a ha => by simp [xr]; omega
      have hb := pAll
      unfold mid
      rw [if_pos h0]
      show _ = [xr (gb ptab (gb x 1).toNat) (pw 2 (i / 8 - 1) : Int), xr (gb ptab (gb x 2).toNat) 0, xr (gb ptab (gb x 3).toNat) 0, xr (gb ptab (gb x 0).toNat) 0]
      rw [hz _ (hb _).1, hz _ (hb _).1, hz _ (hb _).1]
    rw [e, n4_xor _ _ hr (wd4 _ _ _ _ (by omega) (by omega) (by omega) (by omega))]
    have e2 : n4 [(pw 2 (i / 8 - 1) : Int), 0, 0, 0] = pw 2 (i / 8 - 1) * 16777216 := by
      generalize pw 2 (i / 8 - 1) = q
      simp [n4, gb]
    rw [e2]
  · rw [if_neg h0]
    by_cases h4 : i % 8 = 4
    · rw [if_pos h4, wsum_n4 x h]
      have e : mid i x = looked ptab x := by
        unfold mid
        rw [if_neg h0, if_pos h4]
        conv => rhs; rw [four_gb x h.1]
        rfl
      rw [e]
    · rw [if_neg h4, mid, if_neg h0, if_neg h4]
/-- word i, as a number -/
def wn (key : List Int) (i : Nat) : Nat := n4 (wd key i)
theorem wn_lt (key : List Int) (hk : key.length = 32) (ha : AllB key) (i : Nat) : wn key i < 4294967296 := n4_lt _ (wd_wd key hk ha i)
theorem wn_eq (key : List Int) (hk : key.length = 32) (ha : AllB key) (i : Nat) (h : 8 ≤ i) :
    wn key i = wn key (i - 8) ^^^ (if i % 8 = 0 then wsum (wn key (i - 1) * 256 % 4294967296 + wn key (i - 1) / 16777216) 4 ^^^ pw 2 (i / 8 - 1) * 16777216 else if i % 8 = 4 then wsum (wn key (i - 1)) 4 else wn key (i - 1)) := by
  have h8 := wd_wd key hk ha (i - 8)
  have h1 := wd_wd key hk ha (i - 1)
  rw [wn, wd_eq, if_neg (by omega), n4_xor _ _ h8 (mid_wd i _ h1), n4_mid i _ h1]
  rfl
theorem wn_first (key : List Int) (i : Nat) (h : i < 8) : wn key i = n4 (cut4 key i) := by rw [wn, wd_eq, if_pos h]
end Go.Proofs.Ytifepmdhbhdjpaa

/- What aes' stirred answers; four bytes and their number. No claim of its own. -/
namespace Go.Proofs.Ytifepmdhbhdjpaa
open Go.RowKit
set_option maxRecDepth 20000

theorem num4 (x : List Int) (h : Wd x) : num (last8 x) = (n4 x : Int) := by
  have h0 := (wd_bd h 0)
  have h1 := (wd_bd h 1)
  have h2 := (wd_bd h 2)
  have h3 := (wd_bd h 3)
  have e : last8 x = x := by unfold last8; rw [h.1]; rfl
  rw [e]
  obtain ⟨a, b, c, d, rfl⟩ : ∃ a b c d, x = [a, b, c, d] := ⟨_, _, _, _, four_gb x h.1⟩
  simp only [gb, List.getD, List.getElem?_cons_zero, List.getElem?_cons_succ, Option.getD_some] at h0 h1 h2 h3
  simp only [num, n4, gb, List.foldl, List.getD, List.getElem?_cons_zero, List.getElem?_cons_succ, Option.getD_some]
  omega
theorem be4n (x : List Int) (h : Wd x) : (le (n4 x : Int) 4).reverse = x := by
  have h0 := (wd_bd h 0)
  have h1 := (wd_bd h 1)
  have h2 := (wd_bd h 2)
  have h3 := (wd_bd h 3)
  have e : (le (n4 x : Int) 4).reverse = [sh (n4 x) 3 % 256, sh (n4 x) 2 % 256, sh (n4 x) 1 % 256, sh (n4 x) 0 % 256] := rfl
  rw [e, four_gb x h.1]
  have e0 : sh (n4 x) 0 = (n4 x : Int) := rfl
  have e1 : sh (n4 x) 1 = (n4 x : Int) / 256 := rfl
  have e2 : sh (n4 x) 2 = (n4 x : Int) / 256 / 256 := rfl
  have e3 : sh (n4 x) 3 = (n4 x : Int) / 256 / 256 / 256 := rfl
  rw [← four_gb x h.1, e3, e2, e1, e0]
  unfold n4
  have f0 : ((((gb x 0).toNat * 16777216 + (gb x 1).toNat * 65536 + (gb x 2).toNat * 256 + (gb x 3).toNat : Nat) : Int) / 256 / 256 / 256) % 256 = gb x 0 := by omega
  have f1 : ((((gb x 0).toNat * 16777216 + (gb x 1).toNat * 65536 + (gb x 2).toNat * 256 + (gb x 3).toNat : Nat) : Int) / 256 / 256) % 256 = gb x 1 := by omega
  have f2 : ((((gb x 0).toNat * 16777216 + (gb x 1).toNat * 65536 + (gb x 2).toNat * 256 + (gb x 3).toNat : Nat) : Int) / 256) % 256 = gb x 2 := by omega
  have f3 : (((gb x 0).toNat * 16777216 + (gb x 1).toNat * 65536 + (gb x 2).toNat * 256 + (gb x 3).toNat : Nat) : Int) % 256 = gb x 3 := by omega
  rw [f0, f1, f2, f3]
  exact (four_gb x h.1).symm
/-- rotated to the left by 8 -/
def rl8 (x : Nat) : Nat := x * 256 % 4294967296 + x / 16777216
theorem rl8_lt (x : Nat) (h : x < 4294967296) : rl8 x < 4294967296 := by unfold rl8; omega
/-- what goes into word i of the word ahead of it -/
def stn (i x : Nat) : Nat := if i % 8 = 0 then wsum (rl8 x) 4 ^^^ pw 2 (i / 8 - 1) * 16777216 else if i % 8 = 4 then wsum x 4 else x

theorem rot8_eq (x : Nat) (h : x < 4294967296) : bits .or .u32 (IntKind.u32.wrap ((x : Int) * 256)) (IntKind.u32.wrap ((x : Int) / 16777216)) = (rl8 x : Int) := by
  have e1 : IntKind.u32.wrap ((x : Int) * 256) = ((2 ^ 8 * (x % 16777216) : Nat) : Int) := by rw [IntKind.wrap_u32]; omega
  have e2 : IntKind.u32.wrap ((x : Int) / 16777216) = ((x / 16777216 : Nat) : Int) := by rw [IntKind.wrap_u32]; omega
  rw [e1, e2, u32_or_nat _ _ (by omega) (by omega), ← Nat.two_pow_add_eq_or_of_lt (by omega) (x % 16777216)]
  unfold rl8
  omega

set_option maxHeartbeats 1000000 in
theorem rotl8_any (x : Nat) (w : World) (hx : x < 4294967296) :
    Calls Try.prog 84 #[.int .u32 x, .int .i64 8] w fun e w' => e = .returned (.int .u32 (rl8 x)) ∧ w' = w := by
  have h8 : bits .and .u64 8 31 = 8 := by decide +kernel
  have HX : Hid (x < 4294967296) := hx
  have w1 : IntKind.u32.wrap ((x : Int) / 16777216) = (x : Int) / 16777216 := by rw [IntKind.wrap_u32]; omega
  have HE := rot8_eq x hx
  rw [w1] at HE
  have HE' : Hid (bits .or .u32 (IntKind.u32.wrap ((x : Int) * 256)) ((x : Int) / 16777216) = (rl8 x : Int)) := HE
  clear hx HE
  go_enter Try.func84, Try.ntmps84
  go_wp2
  go_ret
  exact ⟨ret_int HE'.out, rfl⟩

theorem pw_bd (i : Nat) : pw 2 i < 256 := pw_lt 2 i
set_option maxHeartbeats 2000000 in
theorem stir_any (x i : Nat) (w : World) (hx : x < 4294967296) (hi : 8 ≤ i) (hi' : i < 60) :
    Calls Try.prog 66 #[.int .u32 x, .int .i64 i] w fun e w' => e = .returned (.int .u32 (stn i x)) ∧ Below w.heap.size w w' := by
  have q1 : IntKind.i64.wrap (i : Int) = i := by rw [IntKind.wrap_i64]; omega
  by_cases h0 : i % 8 = 0
  · have e0 : ((i : Int)).tmod 8 = 0 := by rw [Int.tmod_eq_emod_of_nonneg (by omega)]; omega
    obtain ⟨d, hd⟩ : ∃ d, d = i / 8 - 1 := ⟨_, rfl⟩
    have e1 : ((i : Int)).tdiv 8 = (d : Int) + 1 := by rw [Int.tdiv_eq_ediv_of_nonneg (by omega)]; omega
    have e2 : IntKind.i64.wrap ((d : Int) + 1) = (d : Int) + 1 := by rw [IntKind.wrap_i64]; omega
    have e3 : IntKind.i64.wrap ((d : Int) + 1 - 1) = (d : Int) := by rw [IntKind.wrap_i64]; omega
    have e6 : IntKind.i64.wrap (d : Int) = (d : Int) := by rw [IntKind.wrap_i64]; omega
    have P1 : Hid (∀ w0, Calls Try.prog 82 #[.int .u8 2, .int .i64 d] w0 fun e w' => e = .returned (.int .u8 (pw 2 d)) ∧ w' = w0) := fun w0 => by
      have := pow_any 2 (d : Int) w0 (by omega) (by omega)
      rwa [Int.toNat_natCast] at this
    have R1 : Hid (∀ w0, Calls Try.prog 84 #[.int .u32 x, .int .i64 8] w0 fun e w' => e = .returned (.int .u32 (rl8 x)) ∧ w' = w0) := fun w0 => rotl8_any x w0 hx
    have W1 : Hid (∀ w0, Calls Try.prog 83 #[.int .u32 (rl8 x)] w0 fun e w' => e = .returned (.int .u32 (wsum (rl8 x) 4)) ∧ Below w0.heap.size w0 w') := fun w0 => word_any (rl8 x) w0
    have HS : Hid ((stn i x : Int) = bits .xor .u32 (wsum (rl8 x) 4 : Int) (IntKind.u32.wrap (((pw 2 d : Nat) : Int) * 16777216))) := by
      show _ = _
      have hp := pw_lt 2 d
      have hw := wsum_lt (rl8 x) 4
      have e4 : IntKind.u32.wrap (((pw 2 d : Nat) : Int) * 16777216) = ((pw 2 d * 16777216 : Nat) : Int) := by rw [IntKind.wrap_u32]; omega
      rw [e4, u32_xor_nat _ _ (by omega) (by omega)]
      unfold stn
      rw [if_pos h0, ← hd]
    have hp8 : pw 2 d < 256 := pw_lt 2 d
    have e5 : IntKind.u32.wrap ((pw 2 d : Nat) : Int) = ((pw 2 d : Nat) : Int) := by rw [IntKind.wrap_u32]; omega
    generalize stn i x = z at *
    generalize wsum (rl8 x) 4 = ws at *
    generalize rl8 x = rx at *
    generalize pw 2 d = p at *
    clear hd hp8
    go_enter Try.func66, Try.ntmps66
    go_wp2_with (first
      | (go_at_call 83; refine (W1.out _).mono ?_; rintro e w1 ⟨rfl, B1⟩)
      | (go_at_call 84; refine (R1.out _).mono ?_; rintro e w1 ⟨rfl, hw⟩; obtain rfl := hw.symm)
      | (go_at_call 82; refine (P1.out _).mono ?_; rintro e w1 ⟨rfl, hw⟩; obtain rfl := hw.symm))
    go_ret
    exact ⟨ret_int HS.out.symm, B1⟩
  · by_cases h4 : i % 8 = 4
    · have e0 : ((i : Int)).tmod 8 = 4 := by rw [Int.tmod_eq_emod_of_nonneg (by omega)]; omega
      have W1 : Hid (∀ w0, Calls Try.prog 83 #[.int .u32 x] w0 fun e w' => e = .returned (.int .u32 (wsum x 4)) ∧ Below w0.heap.size w0 w') := fun w0 => word_any x w0
      have HS : Hid (stn i x = wsum x 4) := by show _ = _; unfold stn; rw [if_neg h0, if_pos h4]
      rw [HS.out]
      generalize wsum x 4 = ws at *
      go_enter Try.func66, Try.ntmps66
      go_wp2_with (go_at_call 83; refine (W1.out _).mono ?_; rintro e w1 ⟨rfl, B1⟩)
      go_ret
      exact ⟨rfl, B1⟩
    · obtain ⟨r, hr⟩ : ∃ r, r = i % 8 := ⟨_, rfl⟩
      have e0 : ((i : Int)).tmod 8 = (r : Int) := by rw [Int.tmod_eq_emod_of_nonneg (by omega)]; omega
      have r0 : ¬ ((r : Int) = 0) := by omega
      have r4 : ¬ ((r : Int) = 4) := by omega
      have r5 : IntKind.i64.wrap (r : Int) = r := by rw [IntKind.wrap_i64]; omega
      have HS : stn i x = x := by unfold stn; rw [if_neg h0, if_neg h4]
      rw [HS]
      clear hr h0 h4 HS
      go_enter Try.func66, Try.ntmps66
      go_wp2
      go_ret
      exact ⟨rfl, Below.refl _ _⟩
end Go.Proofs.Ytifepmdhbhdjpaa

/- What field's weigh, Mix and Unmix answer. No claim of its own. -/
namespace Go.Proofs.Ytifepmdhbhdjpaa
open Go.RowKit
set_option maxRecDepth 20000

theorem i_arr4 : (Try.prog.info? 73).map (·.size) = some 4 := by kernel_rfl
theorem z_arr4 : (Try.prog.info? 73).map (fun i => (i.zero, i.size)) = some (some (.agg (ints .u8 z4)), z4.length) := by kernel_rfl

/-- an array's element -/
theorem idx4 {ops : Array Oper} {rest : List Oper} {o : Oper} {a : Act} {Q : Exit → Act → World → Prop} (w : World) (hg : o.guard = none) (x y : Operand) (hop : o.op = Op.index 73 x y) (xs : List Int) (I : Int) (i : Nat) (hx : a.eval x = .agg (ints .u8 xs)) (hy : a.eval y = .int .i64 I) (hI : I = (i : Int)) (hl : xs.length = 4) (hi : i < 4)
    (q : Int) (hq : q = gb xs i) (hK : wpList Try.prog ops Q rest (a.put o.dst (.int .u8 q)) w) : wpList Try.prog ops Q (o :: rest) a w := by
  subst hq
  subst hI
  refine wpList_plain hg fun K hK' => ?_
  have e : (ints .u8 xs)[i]? = some (.int .u8 (gb xs i)) := by simp [ints, gb, List.getD, show i < xs.length by omega]
  have hu := Try.underlying73
  have hu2 := Try.underlying5
  have hsz : (ints .u8 xs).size = 4 := by simp [ints, hl]
  have hr : (Instr.index 73 (.agg (ints .u8 xs)) (.int .i64 i)).run Try.prog w = .ok (.int .u8 (gb xs i)) w := by
    simp [Instr.index, asIntOf, run_underlying hu, run_underlying hu2, Go.part, isAgg, e]
    intro h; omega
  unfold Oper.wp execOp
  simp only [hop, hx, hy, Sem.run_bind, Sem.run_pure, Result.andThen_ok, hr]
  exact hK' _ _ hK

set_option linter.unusedSimpArgs false in
set_option maxRecDepth 20000 in
set_option maxHeartbeats 4000000 in
theorem weigh_any (cs vs : List Nat) (w : World) (hc : Col cs) (hv : Col vs) :
    Calls Try.prog 87 #[.agg (ints .u8 (cI cs)), .agg (ints .u8 (cI vs))] w fun e w' => e = .returned (.agg (ints .u8 (cI (trn cs vs)))) ∧ Below w.heap.size w w' := by
  have HC : Hid (Col cs) := hc
  have HV : Hid (Col vs) := hv
  have LC : Hid ((cI cs).length = 4) := by show _ = _; rw [cI_len]; exact hc.1
  have LV : Hid ((cI vs).length = 4) := by show _ = _; rw [cI_len]; exact hv.1
  have GC : Hid (∀ i, gb (cI cs) i = (gn cs i : Int)) := gb_cI cs
  have GV : Hid (∀ i, gb (cI vs) i = (gn vs i : Int)) := gb_cI vs
  have HE : Hid (prt cs vs 4 0 = cI (trn cs vs) ∧ (cI (trn cs vs)).length = 4) := ⟨prt_end cs vs, rfl⟩
  have HZ : Hid (prt cs vs 0 0 = z4) := prt_zero cs vs
  obtain ⟨xs, hxs⟩ : ∃ xs, xs = cI cs := ⟨_, rfl⟩
  obtain ⟨ys, hys⟩ : ∃ ys, ys = cI vs := ⟨_, rfl⟩
  obtain ⟨zs, hzs⟩ : ∃ zs, zs = cI (trn cs vs) := ⟨_, rfl⟩
  rw [← hxs] at LC GC
  rw [← hys] at LV GV
  rw [← hzs] at HE
  rw [← hxs, ← hys, ← hzs]
  clear hxs hys hzs hc hv
  go_enter Try.func87, Try.ntmps87
  go_wp2_with (first
    | (refine box_lawF _ rfl (.tmp 0) 73 rfl .u8 xs rfl ?_; intro w1 A1 B1 s1; have HA1 : Hid (Ar w1 w.heap.size 0 .u8 xs) := A1; clear A1)
    | (refine box_lawF _ rfl (.tmp 1) 73 rfl .u8 ys rfl ?_; intro w2 A2 B2 s2; have HA2 : Hid (Ar w2 w1.heap.size 0 .u8 ys) := A2; clear A2)
    | (have q2 := s2; have q3 := s3; refine new_lawF _ rfl 73 rfl .u8 z4 z_arr4 ?_; intro w4 A4 B4 s4; have HA4 : Hid (Ar w4 w3.heap.size 0 .u8 z4) := A4; clear A4)
    | (have q2 := s2; refine new_lawF _ rfl 73 rfl .u8 z4 z_arr4 ?_; intro w3 A3 B3 s3; have HA3 : Hid (Ar w3 w2.heap.size 0 .u8 z4) := A3; clear A3))
  have D1 : Hid (Ar w3 w.heap.size 0 .u8 xs) := (HA1.out.below B2 s1).below B3 (by omega)
  have D2 : Hid (Ar w3 w1.heap.size 0 .u8 ys) := HA2.out.below B3 s2
  have BW : Below w.heap.size w w3 := (B1.trans (B2.mono (by omega))).trans (B3.mono (by omega))
  have o1 : w.heap.size < w3.heap.size := by omega
  have o2 : w1.heap.size < w3.heap.size := by omega
  have o3 : w2.heap.size < w3.heap.size := by omega
  generalize w2.heap.size = g2 at *
  generalize w1.heap.size = g1 at *
  generalize w3.heap.size = g3 at *
  go_loopw [9] (fun i wr => ∃ k : Nat, k ≤ 4 ∧ i = .int .i64 k ∧ Ar wr g3 0 .u8 (prt cs vs k 0) ∧ Below g3 w3 wr) (fun i _ => 4 - (intOf i).toNat)
  case atStart => exact ⟨0, Nat.zero_le _, rfl, by rw [HZ.out]; exact HA4.out, B4⟩
  case round =>
    obtain ⟨k, hk, rfl, hA, hB⟩ := hrel
    obtain ⟨wa, rfl⟩ : ∃ wx, wx = wr := ⟨_, rfl⟩
    have k0 : (0 : Int) ≤ (k : Int) := by omega
    have q1 : IntKind.i64.wrap (k : Int) = k := by rw [IntKind.wrap_i64]; omega
    have HB : Hid (Below g3 w3 wa) := hB
    have HA : Hid (Ar wa g3 0 .u8 (prt cs vs k 0)) := hA
    clear hA
    by_cases hlt : k < 4
    · have k1 : (k : Int) < 4 := by omega
      go_wp2_with (refine load_law _ rfl (.tmp 3) 73 rfl .u8 ys g1 0 rfl (D2.out.below HB.out o2) 4 5 Try.underlying73 i_arr4 LV.out ?_)
      go_loopw [13] (fun j wr => ∃ m : Nat, m ≤ 4 ∧ j = .int .i64 m ∧ Ar wr g3 0 .u8 (prt cs vs k m) ∧ Below g3 w3 wr) (fun j _ => 4 - (intOf j).toNat)
      case atStart => exact ⟨0, Nat.zero_le _, rfl, HA.out, HB.out⟩
      case round =>
        obtain ⟨m, hm, rfl, hA', hB'⟩ := hrel
        obtain ⟨wb, rfl⟩ : ∃ wx, wx = wr := ⟨_, rfl⟩
        clear HA HB hB
        have m0 : (0 : Int) ≤ (m : Int) := by omega
        have q2 : IntKind.i64.wrap (m : Int) = m := by rw [IntKind.wrap_i64]; omega
        by_cases hmt : m < 4
        · have m1 : (m : Int) < 4 := by omega
          obtain ⟨j, hj⟩ : ∃ j, j = (k + m) % 4 := ⟨_, rfl⟩
          have j0 : (0 : Int) ≤ (j : Int) := by omega
          have j1 : (j : Int) < 4 := by omega
          have q3 : IntKind.i64.wrap (j : Int) = j := by rw [IntKind.wrap_i64]; omega
          have q4 : IntKind.i64.wrap ((k : Int) + (m : Int)) = (k : Int) + (m : Int) := by rw [IntKind.wrap_i64]; omega
          have r1 : ((k : Int) + (m : Int)) % 4 = (j : Int) := by omega
          have r2 : ((k : Int) + (m : Int)).tmod 4 = (j : Int) := by rw [Int.tmod_eq_emod_of_nonneg (by omega)]; omega
          have c0 := hA'.cell0 k (by rw [prt_len]; omega)
          rw [prt_at cs vs k m hlt] at c0
          have c1 := (D1.out.below hB' o1).cell0 j (by rw [LC.out]; omega)
          rw [GC.out] at c1
          have HM : Hid (∀ w0, Calls Try.prog 89 #[.int .u8 (gn cs j), .int .u8 (gn vs m)] w0 fun e w' => e = .returned (.int .u8 (gm (gn vs m) (gn cs j))) ∧ w' = w0) := fun w0 => by rw [gm_comm (gn vs m) (gn cs j) (HV.out.2 m) (HC.out.2 j)]; exact mul_any _ _ w0 (HC.out.2 j) (HV.out.2 m)
          have hx := u8_xor_nat (acc cs vs k m) (gm (gn vs m) (gn cs j)) (acc_lt cs vs HV.out k m) (gm_lt _ _ (HV.out.2 m))
          have hy : acc cs vs k m ^^^ gm (gn vs m) (gn cs j) = acc cs vs k (m + 1) := by rw [hj]; rfl
          rw [hy] at hx
          have HS : Hid ((prt cs vs k m).set k ((acc cs vs k (m + 1) : Nat) : Int) = prt cs vs k (m + 1)) := prt_set cs vs k m
          have HGV : Hid (((gn vs m : Nat) : Int) = gb ys m) := (GV.out m).symm
          have HA' : Hid (Ar wb g3 0 .u8 (prt cs vs k m)) := hA'
          have HB' : Hid (Below g3 w3 wb) := hB'
          clear hA' hB' hy hj
          generalize acc cs vs k (m + 1) = y1 at *
          generalize acc cs vs k m = y0 at *
          generalize gm (gn vs m) (gn cs j) = p at *
          generalize gn cs j = c at *
          generalize gn vs m = v at *
          go_wp2_with (refine idx4 _ rfl (.tmp 12) (.tmp 13) rfl ys _ m rfl rfl rfl LV.out (by omega) (v : Int) HGV.out ?_)
          refine wp_region_any (by kernel_rfl) ?_
          change wpAny _ _ _ _ _ _ _ (World.drew _)
          refine wpAny_quiet_then (C := fun w' => ∃ n, w' = wb.drewN n) 0 13 1 _ (by kernel_rfl) rfl (by kernel_rfl) (by kernel_rfl) ⟨1, rfl⟩ ?_
          simp only [List.take_succ_cons, List.take_zero, List.drop_zero]
          repeat (quiet_step (with_reducible exact Calls.quiet_of_same (HM.out _)))
          refine wpQuiet_nil ?_
          rintro f _ ⟨nq, rfl⟩
          have A1 := HA'.out.drewN nq
          have A2 := A1.set0 k (by rw [prt_len]; omega) (y1 : Int)
          rw [HS.out] at A2
          have B2' : Below g3 w3 ((wb.drewN nq).setCell ⟨g3, k, none⟩ (.int .u8 (y1 : Int))) := (below_drewN HB'.out nq).setCell (Nat.le_refl _) _
          refine wpAny_ready (rs := [13]) (by kernel_rfl) (by simp) ?_
          refine AllReady.cons rfl (fun K hK => ?_) AllReady.nil
          refine step_set _ rfl none rfl (.tmp 29) (.tmp 28) 5 rfl .u8 (y1 : Int) g3 k rfl (by first | rfl | (rw [← hx]; rfl)) (by rw [A1.cell0 k (by rw [prt_len]; omega)]; rfl) (A1.free0 k (by rw [prt_len]; omega)) i_u8 (hK _ _ ?_)
          simp only [Act.put, List.setIfInBounds_toArray, List.set_cons_zero, List.set_cons_succ]
          have HA6 : Hid (Ar ((wb.drewN nq).setCell ⟨g3, k, none⟩ (.int .u8 (y1 : Int))) g3 0 .u8 (prt cs vs k (m + 1))) := A2
          have HB6 : Hid (Below g3 w3 ((wb.drewN nq).setCell ⟨g3, k, none⟩ (.int .u8 (y1 : Int)))) := B2'
          clear A1 A2 B2' c0 c1
          generalize (wb.drewN nq).setCell ⟨g3, k, none⟩ (.int .u8 (y1 : Int)) = w6 at *
          refine wpAny_done (by kernel_rfl) ?_ _
          go_wp2
          go_roundw
          case rel => exact ⟨m + 1, by omega, by go_num, HA6.out, HB6.out⟩
          case measure => simp [intOf]; omega
        · have hm4 : m = 4 := by omega
          subst hm4
          rw [prt_row cs vs k hlt] at hA'
          have HA6 : Hid (Ar wb g3 0 .u8 (prt cs vs (k + 1) 0)) := hA'
          have HB6 : Hid (Below g3 w3 wb) := hB'
          clear hA' hB'
          go_wp2
          go_roundw
          case rel => exact ⟨k + 1, by omega, by go_num, HA6.out, HB6.out⟩
          case measure => simp [intOf]; omega
    · have hk4 : k = 4 := by omega
      subst hk4
      rw [HE.out.1] at HA
      have D3 : Hid (Ar wa g2 0 .u8 z4) := HA3.out.below HB.out o3
      go_wp2_with (first
        | (refine load_law _ rfl (.tmp 5) 73 rfl .u8 zs g3 0 rfl HA.out 4 5 Try.underlying73 i_arr4 HE.out.2 ?_)
        | (refine store_lawF _ rfl (.tmp 4) (.tmp 32) 73 rfl .u8 z4 zs g2 rfl rfl D3.out 4 i_arr4 rfl HE.out.2 ?_; intro w7 A7 B7))
      refine bodyPost_ret (v := .agg (ints .u8 zs)) (results_ar rfl _ _ g2 0 .u8 zs rfl A7 4 5 Try.underlying73 i_arr4 HE.out.2) rfl ⟨rfl, ?_⟩
      exact (BW.trans (hB.mono (by omega))).trans (B7.mono (by omega))

set_option maxHeartbeats 2000000 in
theorem mix_any (cs : List Nat) (w : World) (hc : Col cs) :
    Calls Try.prog 75 #[.agg (ints .u8 (cI cs))] w fun e w' => e = .returned (.agg (ints .u8 (cI (trn cs mixW)))) ∧ Below w.heap.size w w' := by
  have HW : Hid (∀ w0, Calls Try.prog 87 #[.agg (ints .u8 (cI cs)), .agg (ints .u8 (cI mixW))] w0 fun e w' => e = .returned (.agg (ints .u8 (cI (trn cs mixW)))) ∧ Below w0.heap.size w0 w') := fun w0 => weigh_any cs mixW w0 hc mixW_col
  have LC : Hid ((cI cs).length = 4) := by show _ = _; rw [cI_len]; exact hc.1
  have LZ : Hid ((cI (trn cs mixW)).length = 4) := rfl
  obtain ⟨ys, hys⟩ : ∃ ys, ys = cI mixW := ⟨_, rfl⟩
  have HY : Hid (ys = cI mixW) := hys
  rw [← hys] at HW
  generalize cI (trn cs mixW) = zs at *
  generalize cI cs = xs at *
  clear hys hc
  go_enter Try.func75, Try.ntmps75
  go_wp2_with (first
    | (refine box_lawF _ rfl (.tmp 0) 73 rfl .u8 xs rfl ?_; intro w1 A1 B1 s1; have HA1 : Hid (Ar w1 w.heap.size 0 .u8 xs) := A1; clear A1)
    | (have q1 := s1; refine new_lawF _ rfl 73 rfl .u8 z4 z_arr4 ?_; intro w2 A2 B2 s2; have HA2 : Hid (Ar w2 w1.heap.size 0 .u8 z4) := A2; clear A2; have D1 : Hid (Ar w2 w.heap.size 0 .u8 xs) := HA1.out.below B2 s1)
    | (have q2 := s2; refine load_law _ rfl (.tmp 1) 73 rfl .u8 xs w.heap.size 0 rfl D1.out 4 5 Try.underlying73 i_arr4 LC.out ?_)
    | (have q2 := s2; refine build_law _ rfl 73 _ rfl (.agg (ints .u8 ys)) (by rw [HY.out]; kernel_rfl) ?_)
    | (go_at_call 87; refine (HW.out _).mono ?_; rintro e w3 ⟨rfl, B3⟩; have HA3 : Hid (Ar w3 w1.heap.size 0 .u8 z4) := HA2.out.below B3 s2)
    | (refine store_lawF _ rfl (.tmp 2) (.tmp 5) 73 rfl .u8 z4 zs w1.heap.size rfl rfl HA3.out 4 i_arr4 rfl LZ.out ?_; intro w4 A4 B4))
  refine bodyPost_ret (v := .agg (ints .u8 zs)) (results_ar rfl _ _ w1.heap.size 0 .u8 zs rfl A4 4 5 Try.underlying73 i_arr4 LZ.out) rfl ⟨rfl, ?_⟩
  exact ((B1.trans (B2.mono (by omega))).trans (B3.mono (by omega))).trans (B4.mono (by omega))

set_option maxHeartbeats 2000000 in
theorem unmix_any (cs : List Nat) (w : World) (hc : Col cs) :
    Calls Try.prog 79 #[.agg (ints .u8 (cI cs))] w fun e w' => e = .returned (.agg (ints .u8 (cI (trn cs unmW)))) ∧ Below w.heap.size w w' := by
  have HW : Hid (∀ w0, Calls Try.prog 87 #[.agg (ints .u8 (cI cs)), .agg (ints .u8 (cI unmW))] w0 fun e w' => e = .returned (.agg (ints .u8 (cI (trn cs unmW)))) ∧ Below w0.heap.size w0 w') := fun w0 => weigh_any cs unmW w0 hc unmW_col
  have LC : Hid ((cI cs).length = 4) := by show _ = _; rw [cI_len]; exact hc.1
  have LZ : Hid ((cI (trn cs unmW)).length = 4) := rfl
  obtain ⟨ys, hys⟩ : ∃ ys, ys = cI unmW := ⟨_, rfl⟩
  have HY : Hid (ys = cI unmW) := hys
  rw [← hys] at HW
  generalize cI (trn cs unmW) = zs at *
  generalize cI cs = xs at *
  clear hys hc
  go_enter Try.func79, Try.ntmps79
  go_wp2_with (first
    | (refine box_lawF _ rfl (.tmp 0) 73 rfl .u8 xs rfl ?_; intro w1 A1 B1 s1; have HA1 : Hid (Ar w1 w.heap.size 0 .u8 xs) := A1; clear A1)
    | (have q1 := s1; refine new_lawF _ rfl 73 rfl .u8 z4 z_arr4 ?_; intro w2 A2 B2 s2; have HA2 : Hid (Ar w2 w1.heap.size 0 .u8 z4) := A2; clear A2; have D1 : Hid (Ar w2 w.heap.size 0 .u8 xs) := HA1.out.below B2 s1)
    | (have q2 := s2; refine load_law _ rfl (.tmp 1) 73 rfl .u8 xs w.heap.size 0 rfl D1.out 4 5 Try.underlying73 i_arr4 LC.out ?_)
    | (have q2 := s2; refine build_law _ rfl 73 _ rfl (.agg (ints .u8 ys)) (by rw [HY.out]; kernel_rfl) ?_)
    | (go_at_call 87; refine (HW.out _).mono ?_; rintro e w3 ⟨rfl, B3⟩; have HA3 : Hid (Ar w3 w1.heap.size 0 .u8 z4) := HA2.out.below B3 s2)
    | (refine store_lawF _ rfl (.tmp 2) (.tmp 5) 73 rfl .u8 z4 zs w1.heap.size rfl rfl HA3.out 4 i_arr4 rfl LZ.out ?_; intro w4 A4 B4))
  refine bodyPost_ret (v := .agg (ints .u8 zs)) (results_ar rfl _ _ w1.heap.size 0 .u8 zs rfl A4 4 5 Try.underlying73 i_arr4 LZ.out) rfl ⟨rfl, ?_⟩
  exact ((B1.trans (B2.mono (by omega))).trans (B3.mono (by omega))).trans (B4.mono (by omega))
end Go.Proofs.Ytifepmdhbhdjpaa

/- What aes' cut, stateOf and list answer: a state is a row of sixteen bytes. No claim of its own. -/
namespace Go.Proofs.Ytifepmdhbhdjpaa
open Go.RowKit
set_option maxRecDepth 20000

def z16 : List Int := List.replicate 16 0
theorem z16_len : z16.length = 16 := List.length_replicate
theorem z_st : (Try.prog.info? 79).map (fun i => (i.zero, i.size)) = some (some (.agg (ints .u8 z16)), z16.length) := by kernel_rfl
theorem i_st : (Try.prog.info? 79).map (·.size) = some 16 := by kernel_rfl
theorem ua_st : Try.prog.underlying 79 = some (.array (Try.prog.arrayLen 79) (Try.prog.elem 79)) := by kernel_rfl
theorem la_st : Try.prog.arrayLen 79 = 4 := by kernel_rfl
theorem ia_st : (Try.prog.info? (Try.prog.elem 79)).map (·.size) = some 4 := by kernel_rfl
theorem ua_arr4 : Try.prog.underlying 73 = some (.array (Try.prog.arrayLen 73) (Try.prog.elem 73)) := by kernel_rfl
theorem la_arr4 : Try.prog.arrayLen 73 = 4 := by kernel_rfl
theorem ia_arr4 : (Try.prog.info? (Try.prog.elem 73)).map (·.size) = some 1 := by kernel_rfl

theorem cut4_len (xs : List Int) (i : Nat) (h : 4 * i + 4 ≤ xs.length) : (cut4 xs i).length = 4 := by simp [cut4]; omega
theorem cut4_all (xs : List Int) (i : Nat) (ha : AllB xs) : AllB (cut4 xs i) := allB_mem fun x hx => by
  obtain ⟨j, hj, rfl⟩ := mem_gb (List.mem_of_mem_take (List.mem_of_mem_drop hx))
  exact ha j
/-- an element of a state: a column -/
theorem idx_st {ops : Array Oper} {rest : List Oper} {o : Oper} {a : Act} {Q : Exit → Act → World → Prop} (w : World) (hg : o.guard = none) (x y : Operand) (hop : o.op = Op.index 79 x y) (xs : List Int) (I : Int) (i : Nat) (hx : a.eval x = .agg (ints .u8 xs)) (hy : a.eval y = .int .i64 I) (hI : I = (i : Int)) (hi : i < 4)
    (ys : List Int) (hq : ys = cut4 xs i) (hK : wpList Try.prog ops Q rest (a.put o.dst (.agg (ints .u8 ys))) w) : wpList Try.prog ops Q (o :: rest) a w := by
  subst hq
  subst hI
  refine wpList_plain hg fun K hK' => ?_
  have hu := Try.underlying79
  have hu2 := Try.underlying73
  have e : (ints .u8 xs).extract (i * 4) (i * 4 + 4) = ints .u8 (cut4 xs i) := by
    apply Array.ext'
    simp [ints, cut4, Nat.mul_comm 4 i, List.drop_take, List.map_take, List.map_drop]
  have hsz : (sizeOf 73).run Try.prog w = .ok 4 w := by
    cases hqq : Try.prog.info? 73 with
    | none => have := i_arr4; simp [hqq] at this
    | some i0 =>
      have : i0.size = 4 := by have := i_arr4; simpa [hqq] using this
      simp [sizeOf, typeInfo, hqq, this]
  have hr : (Instr.index 79 (.agg (ints .u8 xs)) (.int .i64 i)).run Try.prog w = .ok (.agg (ints .u8 (cut4 xs i))) w := by
    simp [Instr.index, asIntOf, run_underlying hu, run_underlying hu2, Go.part, isAgg, hsz, e]
    intro h; omega
  unfold Oper.wp execOp
  simp only [hop, hx, hy, Sem.run_bind, Sem.run_pure, Result.andThen_ok, hr]
  exact hK' _ _ hK

set_option maxHeartbeats 1000000 in
theorem cut_any (b off n cap i : Nat) (w : World) (hi : 4 * i + 4 ≤ n) (hn : n ≤ cap) (hs : i ≤ 1000) :
    Calls Try.prog 65 #[.slice (some ⟨b, off, none⟩) n cap, .int .i64 i] w fun e w' => e = .returned (.slice (some ⟨b, off + 4 * i, none⟩) 4 4) ∧ w' = w := by
  have k1 : IntKind.i64.wrap (4 * (i : Int)) = 4 * (i : Int) := by rw [IntKind.wrap_i64]; omega
  have k2 : IntKind.i64.wrap (4 * (i : Int) + 4) = 4 * (i : Int) + 4 := by rw [IntKind.wrap_i64]; omega
  have k3 : (0 : Int) ≤ 4 * (i : Int) := by omega
  have k4 : 4 * (i : Int) + 4 ≤ (cap : Int) := by omega
  have k5 : 4 * (i : Int) ≤ 4 * (i : Int) + 4 := by omega
  go_enter Try.func65, Try.ntmps65
  go_wp2
  go_ret
  refine ⟨?_, rfl⟩
  show Ending.returned (Value.slice (some ⟨b, off + 4 * i, none⟩) (4 * i + 4 - 4 * i) (4 * i + 4 - 4 * i)) = _
  rw [show 4 * i + 4 - 4 * i = 4 by omega]

theorem gb_filled (zs : List Int) (k t : Nat) (h : t < zs.length) : gb (filled zs k) t = if t < k then gb zs t else 0 := by
  unfold filled
  by_cases hk : t < k
  · rw [if_pos hk]
    simp only [gb, List.getD, List.getElem?_append, List.length_take, show t < min k zs.length by omega, if_true, List.getElem?_take, hk]
  · rw [if_neg hk]
    simp only [gb, List.getD, List.getElem?_append, List.length_take, show ¬ t < min k zs.length by omega, if_false, List.getElem?_replicate]
    split <;> rfl
theorem filled_len (zs : List Int) (k : Nat) : (filled zs k).length = zs.length := by simp [filled]; omega
/-- four more bytes -/
theorem filled_cut (xs : List Int) (k : Nat) (h : 4 * k + 4 ≤ xs.length) : laid (filled xs (4 * k)) (4 * k) (cut4 xs k) = filled xs (4 * (k + 1)) := by
  have hc := cut4_len xs k h
  refine ext_gb (by rw [laid_len _ _ _ (by rw [filled_len, hc]; exact h), filled_len, filled_len]) fun t ht => ?_
  rw [laid_len _ _ _ (by rw [filled_len, hc]; exact h), filled_len] at ht
  rw [gb_laid _ _ _ (by rw [filled_len, hc]; exact h), gb_filled _ _ _ ht, gb_filled _ _ _ ht, hc]
  by_cases h1 : t < 4 * k
  · rw [if_pos h1, if_pos h1, if_pos (by omega)]
  · rw [if_neg h1, if_neg h1]
    by_cases h2 : t < 4 * k + 4
    · rw [if_pos h2, if_pos (by omega), cut4_gb _ _ _ (by omega), show 4 * k + (t - 4 * k) = t by omega]
    · rw [if_neg h2, if_neg (by omega)]
theorem filled16 (xs : List Int) (h : xs.length = 16) : filled xs 0 = z16 ∧ filled xs 16 = xs := by
  refine ⟨by rw [filled_zero, h]; rfl, ?_⟩
  have := filled_end xs
  rwa [h] at this

set_option linter.unusedSimpArgs false in
set_option maxRecDepth 20000 in
set_option maxHeartbeats 2000000 in
theorem of_any (v : Value) (xs : List Int) (w : World) (hv : Byt w v xs) (hl : xs.length = 16) :
    Calls Try.prog 69 #[v] w fun e w' => e = .returned (.agg (ints .u8 xs)) ∧ Below w.heap.size w w' := by
  have HX : Hid (AllB xs) := hv.all
  obtain ⟨ao, ca, rfl, ha1, ha2, ha3, -, ha5⟩ := hv
  obtain ⟨bb, bo, rfl, hcell⟩ := ha5 (by omega)
  have HC : Hid (∀ t, t < xs.length → w.cell? ⟨bb, bo + t, none⟩ = some (.int .u8 (gb xs t))) := hcell
  have HL : Hid (xs.length = 16) := hl
  have HF : Hid (filled xs 0 = z16 ∧ filled xs 16 = xs) := filled16 xs hl
  have hbw : bb < w.heap.size := World.block_lt_of_cell? w _ (hcell 0 (by omega))
  rw [hl] at ha1 ⊢
  clear hcell ha5 hl ha3
  go_enter Try.func69, Try.ntmps69
  go_wp2_with (first
    | (have q1 := s1; refine new_lawF _ rfl 79 rfl .u8 z16 z_st ?_; intro w2 A2 B2 s2; have HA2 : Hid (Ar w2 w1.heap.size 0 .u8 z16) := A2; clear A2)
    | (refine new_lawF _ rfl 79 rfl .u8 z16 z_st ?_; intro w1 A1 B1 s1; have HA1 : Hid (Ar w1 w.heap.size 0 .u8 z16) := A1; clear A1))
  have o1 : w.heap.size < w1.heap.size := s1
  have BW : Below w.heap.size w w1 := B1
  generalize w1.heap.size = g3 at *
  go_loopw [5] (fun i wr => ∃ k : Nat, k ≤ 4 ∧ i = .int .i64 k ∧ Ar wr g3 0 .u8 (filled xs (4 * k)) ∧ Below g3 w1 wr) (fun i _ => 4 - (intOf i).toNat)
  case atStart => exact ⟨0, Nat.zero_le _, rfl, by rw [Nat.mul_zero, HF.out.1]; exact HA2.out, B2⟩
  case round =>
    obtain ⟨k, hk, rfl, hA, hB⟩ := hrel
    have k0 : (0 : Int) ≤ (k : Int) := by omega
    have q1 : IntKind.i64.wrap (k : Int) = k := by rw [IntKind.wrap_i64]; omega
    by_cases hlt : k < 4
    · have k1 : (k : Int) < 4 := by omega
      have HCut : Hid (∀ w0, Calls Try.prog 65 #[.slice (some ⟨bb, bo, none⟩) 16 ca, .int .i64 k] w0 fun e w' => e = .returned (.slice (some ⟨bb, bo + 4 * k, none⟩) 4 4) ∧ w' = w0) := fun w0 => cut_any bb bo 16 ca k w0 (by omega) ha1 (by omega)
      have HA : Hid (Ar wr g3 0 .u8 (filled xs (4 * k))) := hA
      have HB : Hid (Below g3 w1 wr) := hB
      have HY : Hid (∀ nq, Byt (wr.drewN nq) (.slice (some ⟨bb, bo + 4 * k, none⟩) 4 4) (cut4 xs k)) := fun nq => by
        have hln := cut4_len xs k (by rw [HL.out]; omega)
        refine ⟨some ⟨bb, bo + 4 * k, none⟩, 4, by rw [hln], by omega, by omega, cut4_all xs k HX.out, (by intro h; cases h), fun _ => ⟨bb, bo + 4 * k, rfl, fun t ht => ?_⟩⟩
        have c := HC.out (4 * k + t) (by rw [HL.out]; omega)
        rw [cut4_gb _ _ _ (by omega), Nat.add_assoc]
        show wr.cell? _ = _
        rw [((BW.trans (HB.out.mono (by omega))).cell hbw)]
        exact c
      clear hA hB
      go_wp2
      refine wp_region_any (by kernel_rfl) ?_
      change wpAny _ _ _ _ _ _ _ (World.drew _)
      refine wpAny_quiet_then (C := fun w' => ∃ n, w' = wr.drewN n) 0 6 1 _ (by kernel_rfl) rfl (by kernel_rfl) (by kernel_rfl) ⟨1, rfl⟩ ?_
      simp only [List.take_succ_cons, List.take_zero, List.drop_zero]
      repeat (quiet_step (with_reducible exact Calls.quiet_of_same (HCut.out _)))
      refine wpQuiet_nil ?_
      rintro f _ ⟨nq, rfl⟩
      refine wpAny_ready (rs := [6]) (by kernel_rfl) (by simp) ?_
      refine AllReady.cons rfl (fun K hK => ?_) AllReady.nil
      refine step_copyG _ rfl (some 14) rfl (.tmp 10) (.tmp 13) rfl g3 (4 * k) 4 4 _ _ _ (by rw [Nat.mul_comm]; rfl) rfl (HY.out nq) (HA.out.drewN nq) (cut4_len xs k (by rw [HL.out]; omega)) (by rw [filled_len, HL.out]; omega) fun w3 A3 B3 => hK _ _ ?_
      rw [filled_cut xs k (by rw [HL.out]; omega)] at A3
      have HA3 : Hid (Ar w3 g3 0 .u8 (filled xs (4 * (k + 1)))) := A3
      have HB3 : Hid (Below g3 w1 w3) := (below_drewN HB.out nq).trans B3
      clear A3 B3
      simp only [Act.put, List.setIfInBounds_toArray, List.set_cons_zero, List.set_cons_succ]
      refine wpAny_done (by kernel_rfl) ?_ _
      go_wp2
      go_roundw
      case rel => exact ⟨k + 1, by omega, by go_num, HA3.out, HB3.out⟩
      case measure => simp [intOf]; omega
    · have hk4 : k = 4 := by omega
      subst hk4
      rw [show 4 * 4 = 16 from rfl, HF.out.2] at hA
      have HA : Hid (Ar wr g3 0 .u8 xs) := hA
      have D1 : Hid (Ar wr w.heap.size 0 .u8 z16) := HA1.out.below hB o1
      clear hA
      go_wp2_with (first
        | (refine load_lawN _ rfl (.tmp 3) 79 rfl .u8 xs g3 0 rfl HA.out 4 16 73 Try.underlying79 i_st HL.out ?_)
        | (refine store_lawF _ rfl (.tmp 2) (.tmp 16) 79 rfl .u8 z16 xs w.heap.size rfl rfl D1.out 16 i_st z16_len HL.out ?_; intro w7 A7 B7))
      refine bodyPost_ret (v := .agg (ints .u8 xs)) (results_arN rfl _ _ w.heap.size 0 .u8 xs rfl A7 4 16 73 Try.underlying79 i_st HL.out) rfl ⟨rfl, ?_⟩
      exact (BW.trans (hB.mono (by omega))).trans B7
end Go.Proofs.Ytifepmdhbhdjpaa

/- What aes' Expand answers. No claim of its own. -/
namespace Go.Proofs.Ytifepmdhbhdjpaa
open Go.RowKit
set_option maxRecDepth 20000

theorem info_u32G : (Try.prog.info? 24).map (fun i => (i.zero, i.size, i.bytes)) = some (some (.int .u32 0), 1, 4) := by kernel_rfl
theorem i_u32 : (Try.prog.info? 24).map (·.size) = some 1 := by kernel_rfl
theorem und_words : Try.prog.underlying 75 = some (.slice (Try.prog.elem 75)) := by kernel_rfl
theorem elem_words : Try.prog.elem 75 = 24 := by kernel_rfl
theorem run_size_u32G (w : World) : (sizeOf 24).run Try.prog w = .ok 1 w := by
  obtain ⟨i0, hi, hz0, hz1, hz2⟩ := info_parts info_u32G
  simp [sizeOf, typeInfo, hi, hz1]

/-- 'make([]uint32, n)': n noughts in a block of their own -/
theorem make_lawW {ops : Array Oper} {rest : List Oper} {o : Oper} {a : Act} {Q : Exit → Act → World → Prop} (w : World) (hg : o.guard = none) (l c : Operand) (hop : o.op = Op.makeSlice 75 l c)
    (L : Int) (n : Nat) (hl : a.eval l = .int .i64 L) (hc : a.eval c = .int .i64 L) (hL : L = (n : Int)) (hn : n ≤ 1099511627776)
    (hK : ∀ w', Ar w' w.heap.size 0 .u32 (List.replicate n 0) → Below w.heap.size w w' → w.heap.size < w'.heap.size → wpList Try.prog ops Q rest (a.put o.dst (.slice (some ⟨w.heap.size, 0, none⟩) n n)) w') :
    wpList Try.prog ops Q (o :: rest) a w := by
  obtain ⟨i0, hi, hz0, hz1, hz2⟩ := info_parts info_u32G
  refine wpList_make_full w hg l c 75 hop w.heap.size 24 i0 (.int .u32 0) 1 Try.underlying75 hi hz0 hz1 .i64 .i64 L L n hl hc hL hL (by rw [hz2]; omega) (by simp only [maxLen]; omega) (Nat.le_refl _) fun w' h1 h2 => ?_
  have hlt : w.heap.size < w'.heap.size := (h1.lt w.heap.size rfl).2
  refine hK w' ?_ ((Below.refl _ w).grown h2 (Nat.le_refl _) (fun k hk => by cases hk)) hlt
  have e : (madeCells (Value.int .u32 0).cells (n * 1)).toList = (List.replicate n (0 : Int)).map (Value.int .u32) := by
    rw [Nat.mul_one]
    show (madeCells #[Value.int .u32 0] n).toList = _
    rw [toList_madeCells_one]; simp
  rw [e] at h1
  refine Ar.mk fun i hi => ?_
  rw [Nat.zero_add]
  have hi' : i < n := by simpa using hi
  refine ⟨?_, h1.frozenAt i⟩
  rw [h1.cellAt i (by omega)]
  simp [gb, List.getD, hi']

section
variable {ops : Array Oper} {C : World → Prop} {K : Act → Prop} {o : Oper} {a : Act}
/-- the address of a word of a slice -/
theorem q_idxW (hw : Region.wanted o (yielded ops a.tmps) = true) (d : Option Tmp) (hd : o.dst = d) (x y : Operand) (hop : o.op = Op.indexAddr 75 x y) (b off n cap i : Nat) (hx : a.eval x = .slice (some ⟨b, off, none⟩) n cap) (hy : a.eval y = .int .i64 i) (hi : i < n)
    (q : Nat) (hq : q = off + i) (hK : K (a.put d (.pointer (some ⟨b, q, none⟩)))) :
    if Region.wanted o (yielded ops a.tmps) = true then o.quiet Try.prog a C K else K (a.put o.dst undef) := by
  refine q_val hw d hd _ (fun w _ => ?_) hK
  subst hq
  have hr : (Instr.indexAt 75 (.slice (some ⟨b, off, none⟩) n cap) (.int .i64 (i : Int))).run Try.prog w = .ok (.pointer (some ⟨b, off + i, none⟩)) w := by
    rw [run_indexAt_slice _ _ _ _ _ _ _ und_words, if_pos (by omega), elem_words, run_size_u32G]
    simp [Result.andThen, Addr.add]
  unfold execOp
  simp only [hop, hx, hy, Sem.run_bind, Sem.run_pure, Result.andThen_ok, hr]
end

/-- the first k words -/
def prw (key : List Int) (k : Nat) : List Int := (List.range 60).map fun t => if t < k then (wn key t : Int) else 0
theorem prw_len (key : List Int) (k : Nat) : (prw key k).length = 60 := by simp [prw]
theorem gb_prw (key : List Int) (k t : Nat) (h : t < 60) : gb (prw key k) t = if t < k then (wn key t : Int) else 0 := range_gb _ _ _ h
theorem prw_zero (key : List Int) : prw key 0 = List.replicate 60 0 := rfl
theorem prw_set (key : List Int) (k : Nat) : (prw key k).set k (wn key k : Int) = prw key (k + 1) := ext_gb (by simp [prw]) fun t ht => by
  rw [List.length_set, prw_len] at ht
  rw [gb_set _ _ _ _ (by rw [prw_len]; exact ht), gb_prw _ _ _ ht, gb_prw _ _ _ ht]
  by_cases e : k = t
  · subst e; simp
  · rw [if_neg e]
    by_cases h : t < k
    · rw [if_pos h, if_pos (by omega)]
    · rw [if_neg h, if_neg (by omega)]

set_option linter.unusedSimpArgs false in
set_option maxRecDepth 20000 in
set_option maxHeartbeats 4000000 in
theorem exp_any (v : Value) (key : List Int) (w : World) (hv : Byt w v key) (hl : key.length = 32) :
    Calls Try.prog 50 #[v] w fun e w' => ∃ g, e = .returned (.tuple #[.slice (some ⟨g, 0, none⟩) 60 60, .int .i64 0]) ∧ Ar w' g 0 .u32 (prw key 60) ∧ w.heap.size ≤ g ∧ Below w.heap.size w w' := by
  have HX : Hid (AllB key) := hv.all
  obtain ⟨ao, ca, rfl, ha1, ha2, ha3, -, ha5⟩ := hv
  obtain ⟨bb, bo, rfl, hcell⟩ := ha5 (by omega)
  have HC : Hid (∀ t, t < key.length → w.cell? ⟨bb, bo + t, none⟩ = some (.int .u8 (gb key t))) := hcell
  have HL : Hid (key.length = 32) := hl
  have hbw : bb < w.heap.size := World.block_lt_of_cell? w _ (hcell 0 (by omega))
  have HWL : Hid (∀ i, wn key i < 4294967296) := wn_lt key hl ha3
  have HWE : Hid (∀ i, 8 ≤ i → wn key i = wn key (i - 8) ^^^ stn i (wn key (i - 1))) := fun i hi => wn_eq key hl ha3 i hi
  have HWF : Hid (∀ i, i < 8 → num (last8 (cut4 key i)) = (wn key i : Int)) := fun i hi => by
    rw [num4 _ (cut4_wd key i ha3 (by omega)), wn_first key i hi]
  rw [hl] at ha1 ⊢
  clear hcell ha5 hl ha3
  go_enter Try.func50, Try.ntmps50
  go_wp2_with (at_make; refine make_lawW _ rfl _ _ rfl 60 60 rfl rfl rfl (by omega) ?_; intro w1 A1 B1 s1; have HA1 : Hid (Ar w1 w.heap.size 0 .u32 (List.replicate 60 0)) := A1; clear A1)
  generalize hg0 : w.heap.size = g0 at *
  go_loopw [11] (fun i wr => ∃ k : Nat, k ≤ 8 ∧ i = .int .i64 k ∧ Ar wr g0 0 .u32 (prw key k) ∧ Below g0 w wr) (fun i _ => 8 - (intOf i).toNat)
  case atStart => exact ⟨0, Nat.zero_le _, rfl, by rw [prw_zero]; exact HA1.out, B1⟩
  case round =>
    obtain ⟨k, hk, rfl, hA, hB⟩ := hrel
    have k0 : (0 : Int) ≤ (k : Int) := by omega
    have q1 : IntKind.i64.wrap (k : Int) = k := by rw [IntKind.wrap_i64]; omega
    by_cases hlt : k < 8
    · have k1 : (k : Int) < 8 := by omega
      have k60 : (k : Int) < 60 := by omega
      have HCut : Hid (∀ w0, Calls Try.prog 65 #[.slice (some ⟨bb, bo, none⟩) 32 ca, .int .i64 k] w0 fun e w' => e = .returned (.slice (some ⟨bb, bo + 4 * k, none⟩) 4 4) ∧ w' = w0) := fun w0 => cut_any bb bo 32 ca k w0 (by omega) ha1 (by omega)
      have HY : Byt wr (.slice (some ⟨bb, bo + 4 * k, none⟩) 4 4) (cut4 key k) := by
        have hln := cut4_len key k (by rw [HL.out]; omega)
        refine ⟨some ⟨bb, bo + 4 * k, none⟩, 4, by rw [hln], by omega, by omega, cut4_all key k HX.out, (by intro h; cases h), fun _ => ⟨bb, bo + 4 * k, rfl, fun t ht => ?_⟩⟩
        have c := HC.out (4 * k + t) (by rw [HL.out]; omega)
        rw [cut4_gb _ _ _ (by omega), Nat.add_assoc, hB.cell hbw]
        exact c
      have HN : Hid (Calls Try.prog 64 #[.slice (some ⟨bb, bo + 4 * k, none⟩) 4 4] wr fun e w' => e = .returned (.int .u64 (wn key k)) ∧ w' = wr) := by
        have := num_any _ _ wr HY
        rw [HWF.out k hlt] at this
        exact this
      have u1 : IntKind.u32.wrap (wn key k : Int) = (wn key k : Int) := by have := HWL.out k; rw [IntKind.wrap_u32]; omega
      have c3 := hA.cell0 k (by rw [prw_len]; omega)
      have c4 := hA.free0 k (by rw [prw_len]; omega)
      have hA2 : Hid (Ar (wr.setCell ⟨g0, k, none⟩ (.int .u32 (wn key k : Int))) g0 0 .u32 (prw key (k + 1))) := by
        have h := hA.set0 k (by rw [prw_len]; omega) (wn key k : Int)
        rw [prw_set] at h
        exact h
      have hB2 : Hid (Below g0 w (wr.setCell ⟨g0, k, none⟩ (.int .u32 (wn key k : Int)))) := hB.setCell (Nat.le_refl _) _
      clear HY hA
      generalize wn key k = x at *
      go_wp2_with (first
        | (go_at_call 64; refine (HN.out).mono ?_; rintro e w2 ⟨rfl, hw⟩; obtain rfl := hw.symm)
        | (go_at_call 65; refine (HCut.out _).mono ?_; rintro e w2 ⟨rfl, hw⟩; obtain rfl := hw.symm))
      go_roundw
      case rel => exact ⟨k + 1, by omega, by go_num, hA2.out, hB2.out⟩
      case measure => simp [intOf]; omega
    · have hk8 : k = 8 := by omega
      subst hk8
      have HA8 : Hid (Ar wr g0 0 .u32 (prw key 8)) := hA
      clear hA
      go_wp2
      go_loopw [6] (fun i wr => ∃ k : Nat, 8 ≤ k ∧ k ≤ 60 ∧ i = .int .i64 k ∧ Ar wr g0 0 .u32 (prw key k) ∧ Below g0 w wr) (fun i _ => 60 - (intOf i).toNat)
      case atStart => exact ⟨8, Nat.le_refl _, by omega, rfl, HA8.out, hB⟩
      case round =>
        obtain ⟨k, hk8, hk, rfl, hA, hB⟩ := hrel
        have k0 : (0 : Int) ≤ (k : Int) := by omega
        have q1 : IntKind.i64.wrap (k : Int) = k := by rw [IntKind.wrap_i64]; omega
        by_cases hlt : k < 60
        · have hgw : g0 < wr.heap.size := hA.lt (by rw [prw_len]; omega)
          obtain ⟨j8, hj8⟩ : ∃ j, j = k - 8 := ⟨_, rfl⟩
          obtain ⟨j1, hj1⟩ : ∃ j, j = k - 1 := ⟨_, rfl⟩
          have l8 : j8 < 60 := by omega
          have l1 : j1 < 60 := by omega
          have t8 : (k : Int) - 8 = (j8 : Int) := by omega
          have t1 : (k : Int) - 1 = (j1 : Int) := by omega
          have w8 : IntKind.i64.wrap (j8 : Int) = j8 := by rw [IntKind.wrap_i64]; omega
          have w1' : IntKind.i64.wrap (j1 : Int) = j1 := by rw [IntKind.wrap_i64]; omega
          have C8 : Hid (∀ w', Below wr.heap.size wr w' → w'.cell? ⟨g0, j8, none⟩ = some (.int .u32 (wn key j8 : Int))) := fun w' h => by
            have c := (hA.below h hgw).cell0 j8 (by rw [prw_len]; omega)
            rw [gb_prw _ _ _ l8, if_pos (by omega)] at c
            exact c
          have C1 : Hid (∀ w', Below wr.heap.size wr w' → w'.cell? ⟨g0, j1, none⟩ = some (.int .u32 (wn key j1 : Int))) := fun w' h => by
            have c := (hA.below h hgw).cell0 j1 (by rw [prw_len]; omega)
            rw [gb_prw _ _ _ l1, if_pos (by omega)] at c
            exact c
          have HST : Hid (∀ w', Below wr.heap.size wr w' → Calls Try.prog 66 #[.int .u32 (wn key j1 : Int), .int .i64 (k : Int)] w' fun e w'' => e = .returned (.int .u32 (stn k (wn key j1) : Int)) ∧ Below wr.heap.size wr w'') := fun w' h =>
            (stir_any _ k w' (HWL.out j1) hk8 hlt).mono fun e w'' h' => ⟨h'.1, h.trans (h'.2.mono h.size)⟩
          have hz0 : wn key k = wn key j8 ^^^ stn k (wn key j1) := by have := HWE.out k hk8; rw [← hj8, ← hj1] at this; exact this
          have st32 : stn k (wn key j1) < 4294967296 := by
            have h1 := HWL.out j1
            have h2 := wsum_lt (rl8 (wn key j1)) 4
            have h3 := wsum_lt (wn key j1) 4
            have h4 := pw_lt 2 (k / 8 - 1)
            unfold stn
            split
            · exact Nat.xor_lt_two_pow (n := 32) (by omega) (by omega)
            · split <;> omega
          have HZ : Hid (bits .xor .u32 (wn key j8 : Int) (stn k (wn key j1) : Int) = (wn key k : Int)) := by
            show _ = _
            rw [u32_xor_nat _ _ (HWL.out j8) st32, hz0]
          have HA : Hid (Ar wr g0 0 .u32 (prw key k)) := hA
          have HSet : Hid ((prw key k).set k (wn key k : Int) = prw key (k + 1)) := prw_set key k
          have HB : Hid (Below g0 w wr) := hB
          clear hA hB hz0 st32 hj8 hj1
          generalize wn key k = z at *
          generalize stn k (wn key j1) = s1 at *
          generalize wn key j1 = x1 at *
          generalize wn key j8 = x8 at *
          have k60 : (k : Int) < 60 := by omega
          go_wp2
          refine wp_region_any (by kernel_rfl) ?_
          refine wpAny_quiet_then (C := fun w' => Below wr.heap.size wr w') 0 16 1 _ (by kernel_rfl) rfl (by kernel_rfl) (by kernel_rfl) (Below.refl _ _).drew ?_
          simp only [List.take_succ_cons, List.take_zero, List.drop_zero]
          refine wpQuiet_step (fun K hK => ?_)
          refine q_val (by rfl) (some 27) rfl (.slice (some ⟨g0, 0, none⟩) 60 60) (fun w' _ => by rfl) (hK _ ?_)
          simp only [Act.put, List.setIfInBounds_toArray, List.set_cons_zero, List.set_cons_succ]
          clear hK K
          refine wpQuiet_step (fun K hK => ?_)
          refine q_val (by rfl) (some 28) rfl (.int .i64 (k : Int)) (fun w' _ => by rfl) (hK _ ?_)
          simp only [Act.put, List.setIfInBounds_toArray, List.set_cons_zero, List.set_cons_succ]
          clear hK K
          refine wpQuiet_step (fun K hK => ?_)
          refine q_val (by rfl) (some 29) rfl (.slice (some ⟨g0, 0, none⟩) 60 60) (fun w' _ => by rfl) (hK _ ?_)
          simp only [Act.put, List.setIfInBounds_toArray, List.set_cons_zero, List.set_cons_succ]
          clear hK K
          refine wpQuiet_step (fun K hK => ?_)
          refine q_val (by rfl) (some 30) rfl (.int .i64 (k : Int)) (fun w' _ => by rfl) (hK _ ?_)
          simp only [Act.put, List.setIfInBounds_toArray, List.set_cons_zero, List.set_cons_succ]
          clear hK K
          refine wpQuiet_step (fun K hK => ?_)
          refine q_val (by rfl) (some 31) rfl (.int .i64 (j8 : Int)) (fun w' _ => by go_simp) (hK _ ?_)
          simp only [Act.put, List.setIfInBounds_toArray, List.set_cons_zero, List.set_cons_succ]
          clear hK K
          refine wpQuiet_step (fun K hK => ?_)
          refine q_idxW (by rfl) (some 32) rfl (.tmp 29) (.tmp 31) rfl g0 0 60 60 j8 rfl rfl l8 j8 (by omega) (hK _ ?_)
          simp only [Act.put, List.setIfInBounds_toArray, List.set_cons_zero, List.set_cons_succ]
          clear hK K
          refine wpQuiet_step (fun K hK => ?_)
          refine q_get (by rfl) (some 33) rfl (.tmp 32) 24 rfl .u32 (x8 : Int) g0 j8 rfl Try.underlying24 C8.out (hK _ ?_)
          simp only [Act.put, List.setIfInBounds_toArray, List.set_cons_zero, List.set_cons_succ]
          clear hK K
          refine wpQuiet_step (fun K hK => ?_)
          refine q_val (by rfl) (some 34) rfl (.slice (some ⟨g0, 0, none⟩) 60 60) (fun w' _ => by rfl) (hK _ ?_)
          simp only [Act.put, List.setIfInBounds_toArray, List.set_cons_zero, List.set_cons_succ]
          clear hK K
          refine wpQuiet_step (fun K hK => ?_)
          refine q_val (by rfl) (some 35) rfl (.int .i64 (k : Int)) (fun w' _ => by rfl) (hK _ ?_)
          simp only [Act.put, List.setIfInBounds_toArray, List.set_cons_zero, List.set_cons_succ]
          clear hK K
          refine wpQuiet_step (fun K hK => ?_)
          refine q_val (by rfl) (some 36) rfl (.int .i64 (j1 : Int)) (fun w' _ => by go_simp) (hK _ ?_)
          simp only [Act.put, List.setIfInBounds_toArray, List.set_cons_zero, List.set_cons_succ]
          clear hK K
          refine wpQuiet_step (fun K hK => ?_)
          refine q_idxW (by rfl) (some 37) rfl (.tmp 34) (.tmp 36) rfl g0 0 60 60 j1 rfl rfl l1 j1 (by omega) (hK _ ?_)
          simp only [Act.put, List.setIfInBounds_toArray, List.set_cons_zero, List.set_cons_succ]
          clear hK K
          refine wpQuiet_step (fun K hK => ?_)
          refine q_get (by rfl) (some 38) rfl (.tmp 37) 24 rfl .u32 (x1 : Int) g0 j1 rfl Try.underlying24 C1.out (hK _ ?_)
          simp only [Act.put, List.setIfInBounds_toArray, List.set_cons_zero, List.set_cons_succ]
          clear hK K
          refine wpQuiet_step (fun K hK => ?_)
          refine q_val (by rfl) (some 39) rfl (.int .i64 (k : Int)) (fun w' _ => by rfl) (hK _ ?_)
          simp only [Act.put, List.setIfInBounds_toArray, List.set_cons_zero, List.set_cons_succ]
          clear hK K
          refine wpQuiet_step (fun K hK => ?_)
          refine q_call (by rfl) (some 40) rfl 66 #[.tmp 38, .tmp 39] #[24, 3] rfl (fun q w' => by rfl) #[.int .u32 (x1 : Int), .int .i64 (k : Int)] (by simp only [List.map_toArray, List.map_cons, List.map_nil]; rfl) (.int .u32 (s1 : Int)) HST.out (hK _ ?_)
          simp only [Act.put, List.setIfInBounds_toArray, List.set_cons_zero, List.set_cons_succ]
          clear hK K
          refine wpQuiet_step (fun K hK => ?_)
          refine q_val (by rfl) (some 41) rfl (.int .u32 (z : Int)) (fun w' _ => by (have hz := HZ.out; go_simp)) (hK _ ?_)
          simp only [Act.put, List.setIfInBounds_toArray, List.set_cons_zero, List.set_cons_succ]
          clear hK K
          refine wpQuiet_step (fun K hK => ?_)
          refine q_idxW (by rfl) (some 42) rfl (.tmp 27) (.tmp 28) rfl g0 0 60 60 k rfl rfl hlt k (by omega) (hK _ ?_)
          simp only [Act.put, List.setIfInBounds_toArray, List.set_cons_zero, List.set_cons_succ]
          clear hK K
          refine wpQuiet_nil ?_
          intro f w3 B3
          have A1 := HA.out.below B3 hgw
          have A2 := A1.set0 k (by rw [prw_len]; omega) (z : Int)
          rw [HSet.out] at A2
          have B2' : Below g0 w (w3.setCell ⟨g0, k, none⟩ (.int .u32 (z : Int))) := (HB.out.trans (B3.mono (by omega))).setCell (Nat.le_refl _) _
          refine wpAny_ready (rs := [16]) (by kernel_rfl) (by simp) ?_
          refine AllReady.cons rfl (fun K hK => ?_) AllReady.nil
          refine step_set _ rfl none rfl (.tmp 42) (.tmp 41) 24 rfl .u32 (z : Int) g0 k rfl rfl (by rw [A1.cell0 _ (by rw [prw_len]; omega)]; rfl) (A1.free0 _ (by rw [prw_len]; omega)) i_u32 (hK _ _ ?_)
          simp only [Act.put, List.setIfInBounds_toArray, List.set_cons_zero, List.set_cons_succ]
          have HA6 : Hid (Ar (w3.setCell ⟨g0, k, none⟩ (.int .u32 (z : Int))) g0 0 .u32 (prw key (k + 1))) := A2
          have HB6 : Hid (Below g0 w (w3.setCell ⟨g0, k, none⟩ (.int .u32 (z : Int)))) := B2'
          clear A1 A2 B2' B3
          generalize w3.setCell ⟨g0, k, none⟩ (.int .u32 (z : Int)) = w6 at *
          refine wpAny_done (by kernel_rfl) ?_ _
          go_wp2
          go_roundw
          case rel => exact ⟨k + 1, by omega, by omega, by go_num, HA6.out, HB6.out⟩
          case measure => simp [intOf]; omega
        · have hk60 : k = 60 := by omega
          subst hk60
          go_wp2
          go_ret2
          exact ⟨g0, rfl, hA, by omega, by rw [hg0]; exact hB⟩
end Go.Proofs.Ytifepmdhbhdjpaa

