/- Texts put together (a claim holds few files). No claim of its own. -/
import Derived.Test.YtifepmdhbhdjpaaDoorPackK
import Derived.Test.YtifepmdhbhdjpaaDoorPackJ
import Derived.Deep.DeepCutAuto
import Derived.Test.YtifepmdhbhdjpaaDoorPackC
/- What aes' shifted, shiftedList, Shift and Unshift answer. No claim of its own. -/
namespace Go.Proofs.YtifepmdhbhdjpaaDoor
open Go.RowKit
set_option maxRecDepth 20000

/-- the first t bytes are there -/
def prs (b : List Int) (n t : Nat) : List Int := (List.range 16).map fun i => if i < t then gb b (shi i n) else 0
theorem prs_len (b : List Int) (n t : Nat) : (prs b n t).length = 16 := by simp [prs]
theorem gb_prs (b : List Int) (n t i : Nat) (h : i < 16) : gb (prs b n t) i = if i < t then gb b (shi i n) else 0 := range_gb _ _ _ h
theorem prs_zero (b : List Int) (n : Nat) : prs b n 0 = z16 := rfl
theorem prs_end (b : List Int) (n : Nat) : prs b n 16 = shl16 b n := ext_gb (by rw [prs_len, shl16_len]) fun t ht => by
  rw [prs_len] at ht
  rw [gb_prs _ _ _ _ ht, if_pos ht, shl16_gb _ _ _ ht]
theorem prs_set (b : List Int) (n t : Nat) : (prs b n t).set t (gb b (shi t n)) = prs b n (t + 1) := ext_gb (by simp [prs]) fun i hi => by
  rw [List.length_set, prs_len] at hi
  rw [gb_set _ _ _ _ (by rw [prs_len]; exact hi), gb_prs _ _ _ _ hi, gb_prs _ _ _ _ hi]
  by_cases e : t = i
  · subst e; simp
  · rw [if_neg e]
    by_cases h : i < t
    · rw [if_pos h, if_pos (by omega)]
    · rw [if_neg h, if_neg (by omega)]
/-- how a step tells a shift -/
def Stp (sg : Int) (n : Nat) : Prop := ∀ c i : Nat, c < 4 → i < 4 → -3 ≤ sg * (i : Int) ∧ sg * (i : Int) ≤ 3 ∧ ((c : Int) + 4 + sg * (i : Int)) % 4 = (((c + n * i) % 4 : Nat) : Int)
theorem stp_one : Stp 1 1 := fun c i hc hi => by omega
theorem stp_neg : Stp (-1) 3 := fun c i hc hi => by omega

set_option linter.unusedSimpArgs false in
set_option maxRecDepth 20000 in
set_option maxHeartbeats 4000000 in
theorem shifted_any (xs : List Int) (sg : Int) (n : Nat) (w : World) (hx : Blk xs) (hst : Stp sg n) :
    Calls Tryd.prog 53 #[.agg (ints .u8 xs), .int .i64 sg] w fun e w' => e = .returned (.agg (ints .u8 (shl16 xs n))) ∧ Below w.heap.size w w' := by
  have HX : Hid (Blk xs) := hx
  have HST : Hid (Stp sg n) := hst
  have HZ : Hid (prs xs n 0 = z16 ∧ prs xs n 16 = shl16 xs n ∧ (shl16 xs n).length = 16) := ⟨prs_zero xs n, prs_end xs n, shl16_len xs n⟩
  generalize shl16 xs n = zs at *
  clear hx hst
  go_enter Tryd.func53, Tryd.ntmps53
  go_wp2_with (first
    | (refine box_lawF _ rfl (.tmp 0) 71 rfl .u8 xs rfl ?_; intro w1 A1 B1 s1; have HA1 : Hid (Ar w1 w.heap.size 0 .u8 xs) := A1; clear A1)
    | (have q2 := s2; refine new_lawF _ rfl 71 rfl .u8 z16 z_st ?_; intro w3 A3 B3 s3; have HA3 : Hid (Ar w3 w2.heap.size 0 .u8 z16) := A3; clear A3)
    | (have q1 := s1; refine new_lawF _ rfl 71 rfl .u8 z16 z_st ?_; intro w2 A2 B2 s2; have HA2 : Hid (Ar w2 w1.heap.size 0 .u8 z16) := A2; clear A2))
  have D1 : Hid (Ar w2 w.heap.size 0 .u8 xs) := HA1.out.below B2 s1
  have BW : Below w.heap.size w w2 := B1.trans (B2.mono (by omega))
  have o1 : w.heap.size < w2.heap.size := by omega
  have o2 : w1.heap.size < w2.heap.size := s2
  generalize hg0 : w.heap.size = g0 at *
  generalize w2.heap.size = g2 at *
  generalize w1.heap.size = g1 at *
  go_loopw [8] (fun i wr => ∃ k : Nat, k ≤ 4 ∧ i = .int .i64 k ∧ Ar wr g2 0 .u8 (prs xs n (4 * k)) ∧ Below g2 w2 wr) (fun i _ => 4 - (intOf i).toNat)
  case atStart => exact ⟨0, Nat.zero_le _, rfl, by rw [Nat.mul_zero, HZ.out.1]; exact HA3.out, B3⟩
  case round =>
    obtain ⟨k, hk, rfl, hA, hB⟩ := hrel
    obtain ⟨wa, rfl⟩ : ∃ wx, wx = wr := ⟨_, rfl⟩
    have k0 : (0 : Int) ≤ (k : Int) := by omega
    have q1 : IntKind.i64.wrap (k : Int) = k := by rw [IntKind.wrap_i64]; omega
    have HA : Hid (Ar wa g2 0 .u8 (prs xs n (4 * k))) := hA
    have HB : Hid (Below g2 w2 wa) := hB
    clear hA hB
    by_cases hlt : k < 4
    · have k1 : (k : Int) < 4 := by omega
      go_wp2
      go_loopw [11] (fun j wr => ∃ m : Nat, m ≤ 4 ∧ j = .int .i64 m ∧ Ar wr g2 0 .u8 (prs xs n (4 * k + m)) ∧ Below g2 w2 wr) (fun j _ => 4 - (intOf j).toNat)
      case atStart => exact ⟨0, Nat.zero_le _, rfl, HA.out, HB.out⟩
      case round =>
        obtain ⟨m, hm, rfl, hA', hB'⟩ := hrel
        obtain ⟨wb, rfl⟩ : ∃ wx, wx = wr := ⟨_, rfl⟩
        have m0 : (0 : Int) ≤ (m : Int) := by omega
        have q2 : IntKind.i64.wrap (m : Int) = m := by rw [IntKind.wrap_i64]; omega
        clear HA HB
        by_cases hmt : m < 4
        · have m1 : (m : Int) < 4 := by omega
          obtain ⟨t1, t2, t3⟩ := HST.out k m hlt hmt
          obtain ⟨p, hp⟩ : ∃ p, sg * (m : Int) = p := ⟨_, rfl⟩
          rw [hp] at t1 t2 t3
          obtain ⟨j, hj⟩ : ∃ j, j = (k + n * m) % 4 := ⟨_, rfl⟩
          have HJ : Hid (shi (4 * k + m) n = j * 4 + m) := by
            show _ = _
            unfold shi
            rw [show (4 * k + m) / 4 = k by omega, show (4 * k + m) % 4 = m by omega, ← hj, Nat.mul_comm]
          rw [← hj] at t3
          have j4 : j < 4 := by omega
          have j0 : (0 : Int) ≤ (j : Int) := by omega
          have j1 : (j : Int) < 4 := by omega
          have r1 : IntKind.i64.wrap p = p := by rw [IntKind.wrap_i64]; omega
          have r2 : IntKind.i64.wrap ((k : Int) + 4) = (k : Int) + 4 := by rw [IntKind.wrap_i64]; omega
          have r3 : IntKind.i64.wrap ((k : Int) + 4 + p) = (k : Int) + 4 + p := by rw [IntKind.wrap_i64]; omega
          have r4 : ((k : Int) + 4 + p).tmod 4 = (j : Int) := by rw [Int.tmod_eq_emod_of_nonneg (by omega)]; exact t3
          have r5 : IntKind.i64.wrap (j : Int) = j := by rw [IntKind.wrap_i64]; omega
          have c0 := (D1.out.below hB' o1).cell0 (j * 4 + m) (by rw [HX.out.1]; omega)
          have HS2 : Hid ((prs xs n (4 * k + m)).set (4 * k + m) (gb xs (j * 4 + m)) = prs xs n (4 * k + (m + 1))) := by
            show _ = _
            rw [← HJ.out]; exact prs_set xs n (4 * k + m)
          have HA' : Hid (Ar wb g2 0 .u8 (prs xs n (4 * k + m))) := hA'
          have HB' : Hid (Below g2 w2 wb) := hB'
          clear hA' hB' hj
          generalize gb xs (j * 4 + m) = x at *
          go_wp2
          refine wp_region_any (by kernel_rfl) ?_
          change wpAny _ _ _ _ _ _ _ (World.drew _)
          refine wpAny_quiet_then (C := fun w' => ∃ n, w' = wb.drewN n) 0 15 1 _ (by kernel_rfl) rfl (by kernel_rfl) (by kernel_rfl) ⟨1, rfl⟩ ?_
          simp only [List.take_succ_cons, List.take_zero, List.drop_zero]
          repeat (quiet_step (fail))
          refine wpQuiet_nil ?_
          rintro f _ ⟨nq, rfl⟩
          have A1 := HA'.out.drewN nq
          have A2 := A1.set0 (4 * k + m) (by rw [prs_len]; omega) x
          rw [HS2.out] at A2
          have B2' : Below g2 w2 ((wb.drewN nq).setCell ⟨g2, 4 * k + m, none⟩ (.int .u8 x)) := (below_drewN HB'.out nq).setCell (Nat.le_refl _) _
          refine wpAny_ready (rs := [15]) (by kernel_rfl) (by simp) ?_
          refine AllReady.cons rfl (fun K hK => ?_) AllReady.nil
          refine step_set _ rfl none rfl (.tmp 28) (.tmp 26) 5 rfl .u8 x g2 (4 * k + m) (by rw [Nat.mul_comm 4 k]; rfl) rfl (by rw [A1.cell0 _ (by rw [prs_len]; omega)]; rfl) (A1.free0 _ (by rw [prs_len]; omega)) i_u8 (hK _ _ ?_)
          simp only [Act.put, List.setIfInBounds_toArray, List.set_cons_zero, List.set_cons_succ]
          have HA6 : Hid (Ar ((wb.drewN nq).setCell ⟨g2, 4 * k + m, none⟩ (.int .u8 x)) g2 0 .u8 (prs xs n (4 * k + (m + 1)))) := A2
          have HB6 : Hid (Below g2 w2 ((wb.drewN nq).setCell ⟨g2, 4 * k + m, none⟩ (.int .u8 x))) := B2'
          clear A1 A2 B2' c0
          generalize (wb.drewN nq).setCell ⟨g2, 4 * k + m, none⟩ (.int .u8 x) = w6 at *
          refine wpAny_done (by kernel_rfl) ?_ _
          go_wp2
          go_roundw
          case rel => exact ⟨m + 1, by omega, by go_num, HA6.out, HB6.out⟩
          case measure => simp [intOf]; omega
        · have hm4 : m = 4 := by omega
          subst hm4
          have HA6 : Hid (Ar wb g2 0 .u8 (prs xs n (4 * (k + 1)))) := by show Ar _ _ _ _ _; rw [show 4 * (k + 1) = 4 * k + 4 by omega]; exact hA'
          have HB6 : Hid (Below g2 w2 wb) := hB'
          clear hA' hB'
          go_wp2
          go_roundw
          case rel => exact ⟨k + 1, by omega, by go_num, HA6.out, HB6.out⟩
          case measure => simp [intOf]; omega
    · have hk4 : k = 4 := by omega
      subst hk4
      have HA4 : Hid (Ar wa g2 0 .u8 zs) := by have := HA.out; rw [show 4 * 4 = 16 from rfl, HZ.out.2.1] at this; exact this
      have D2 : Hid (Ar wa g1 0 .u8 z16) := HA2.out.below HB.out o2
      clear HA
      go_wp2_with (first
        | (refine load_lawN _ rfl (.tmp 5) 71 rfl .u8 zs g2 0 rfl HA4.out 4 16 69 Tryd.underlying71 i_st HZ.out.2.2 ?_)
        | (refine store_lawF _ rfl (.tmp 4) (.tmp 31) 71 rfl .u8 z16 zs g1 rfl rfl D2.out 16 i_st z16_len HZ.out.2.2 ?_; intro w7 A7 B7))
      refine bodyPost_ret (v := .agg (ints .u8 zs)) (results_arN rfl _ _ g1 0 .u8 zs rfl A7 4 16 69 Tryd.underlying71 i_st HZ.out.2.2) rfl ⟨rfl, ?_⟩
      rw [hg0]
      exact (BW.trans (HB.out.mono (by omega))).trans (B7.mono (by omega))
end Go.Proofs.YtifepmdhbhdjpaaDoor

/- What aes' mixed and put answer, with Mix and Unmix, Subs and Backs. No claim of its own. -/
namespace Go.Proofs.YtifepmdhbhdjpaaDoor
open Go.RowKit
set_option maxRecDepth 20000

/-- a part of an array is written; the world gets a name -/
theorem store_lawM {ops : Array Oper} {rest : List Oper} {o : Oper} {a : Act} {Q : Exit → Act → World → Prop} (w : World) (hg : o.guard = none) (x y : Operand) (t : TypeId) (hop : o.op = Op.store t x y) (xs ys : List Int) (b p : Nat) (hx : a.eval x = .pointer (some ⟨b, p, none⟩)) (hy : a.eval y = .agg (ints .u8 ys))
    (hA : Ar w b 0 .u8 xs) (n : Nat) (hi : (Tryd.prog.info? t).map (·.size) = some n) (hn : ys.length = n) (hl : p + n ≤ xs.length)
    (hK : ∀ w', Ar w' b 0 .u8 (laid xs p ys) → Below b w w' → (∀ b' o' k' zs, b' ≠ b → Ar w b' o' k' zs → Ar w' b' o' k' zs) → wpList Tryd.prog ops Q rest (a.put o.dst undef) w') :
    wpList Tryd.prog ops Q (o :: rest) a w :=
  store_law w hg x y t hop .u8 ys b p hx hy (by rw [hn]; exact thereG hA p n hl) n hi hn (hK _ (hA.layG p ys (by omega)) (below_cells _ (Nat.le_refl _) _ _ (Below.refl _ _)) (fun b' o' k' zs hb' h => h.apart b p _ (Or.inl hb')))

/-- the first k columns are mixed -/
def prm (xs ms : List Int) (k : Nat) : List Int := (List.range 16).map fun i => if i < 4 * k then gb ms i else gb xs i
theorem prm_len (xs ms : List Int) (k : Nat) : (prm xs ms k).length = 16 := by simp [prm]
theorem gb_prm (xs ms : List Int) (k t : Nat) (h : t < 16) : gb (prm xs ms k) t = if t < 4 * k then gb ms t else gb xs t := range_gb _ _ _ h
theorem prm_zero (xs ms : List Int) (h : xs.length = 16) : prm xs ms 0 = xs := ext_gb (by rw [prm_len, h]) fun t ht => by
  rw [prm_len] at ht
  rw [gb_prm _ _ _ _ ht, if_neg (by omega)]
theorem prm_end (xs ms : List Int) (h : ms.length = 16) : prm xs ms 4 = ms := ext_gb (by rw [prm_len, h]) fun t ht => by
  rw [prm_len] at ht
  rw [gb_prm _ _ _ _ ht, if_pos (by omega)]
theorem prm_lay (xs ms : List Int) (k : Nat) (hk : k < 4) (h : ms.length = 16) : laid (prm xs ms k) (4 * k) (cut4 ms k) = prm xs ms (k + 1) := by
  have hc := cut4_len ms k (by omega)
  refine ext_gb (by rw [laid_len _ _ _ (by rw [prm_len, hc]; omega), prm_len, prm_len]) fun t ht => ?_
  rw [laid_len _ _ _ (by rw [prm_len, hc]; omega), prm_len] at ht
  rw [gb_laid _ _ _ (by rw [prm_len, hc]; omega), gb_prm _ _ _ _ ht, gb_prm _ _ _ _ ht, hc]
  by_cases h1 : t < 4 * k
  · rw [if_pos h1, if_pos h1, if_pos (by omega)]
  · rw [if_neg h1, if_neg h1]
    by_cases h2 : t < 4 * k + 4
    · rw [if_pos h2, if_pos (by omega), cut4_gb _ _ _ (by omega), show 4 * k + (t - 4 * k) = t by omega]
    · rw [if_neg h2, if_neg (by omega)]
theorem cut4_col (xs : List Int) (k : Nat) (h : Blk xs) (hk : k < 4) : cut4 xs k = cI (colOf xs k) := by
  have hc := cut4_len xs k (by rw [h.1]; omega)
  refine ext_gb (by rw [hc, cI_len, (colOf_col xs k h.2).1]) fun t ht => ?_
  rw [hc] at ht
  rw [cut4_gb _ _ _ ht, gb_cI, colOf_gn _ _ _ ht]
  have := h.2 (4 * k + t)
  omega
theorem trn_cut (xs : List Int) (ws : List Nat) (k : Nat) (hk : k < 4) (hw : Col ws) : cI (trn (colOf xs k) ws) = cut4 (mixb xs ws) k := by
  rw [cut4_col _ k (mixb_blk xs ws hw) hk, colOf_mixb xs ws k hk]

set_option linter.unusedSimpArgs false in
set_option maxRecDepth 20000 in
set_option maxHeartbeats 4000000 in
theorem mixed_mix (xs : List Int) (w : World) (hx : Blk xs) :
    Calls Tryd.prog 54 #[.agg (ints .u8 xs), .func (.func 55) #[] #[]] w fun e w' => e = .returned (.agg (ints .u8 (mixb xs mixW))) ∧ Below w.heap.size w w' := by
  have HX : Hid (Blk xs) := hx
  have HM : Hid (∀ k, k < 4 → ∀ w0, Calls Tryd.prog 55 #[.agg (ints .u8 (cut4 xs k))] w0 fun e w' => e = .returned (.agg (ints .u8 (cut4 (mixb xs mixW) k))) ∧ Below w0.heap.size w0 w') := fun k hk w0 => by
    have := mix_any (colOf xs k) w0 (colOf_col xs k hx.2)
    rw [trn_cut xs mixW k hk mixW_col, ← cut4_col xs k hx hk] at this
    exact this
  have ML : Hid ((mixb xs mixW).length = 16) := mixb_len xs mixW
  generalize mixb xs mixW = ms at *
  have HZ : Hid (prm xs ms 0 = xs ∧ prm xs ms 4 = ms) := ⟨prm_zero xs ms hx.1, prm_end xs ms ML.out⟩
  clear hx
  go_enter Tryd.func54, Tryd.ntmps54
  go_wp2_with (first
    | (refine box_lawF _ rfl (.tmp 0) 71 rfl .u8 xs rfl ?_; intro w1 A1 B1 s1; have HA1 : Hid (Ar w1 w.heap.size 0 .u8 xs) := A1; clear A1)
    | (have q1 := s1; refine new_lawF _ rfl 71 rfl .u8 z16 z_st ?_; intro w2 A2 B2 s2; have HA2 : Hid (Ar w2 w1.heap.size 0 .u8 z16) := A2; clear A2)
    | (have q2 := s2; refine load_lawN _ rfl (.tmp 2) 71 rfl .u8 xs w.heap.size 0 rfl (HA1.out.below B2 s1) 4 16 69 Tryd.underlying71 i_st HX.out.1 ?_))
  have D1 : Hid (Ar w2 w.heap.size 0 .u8 xs) := HA1.out.below B2 s1
  have BW : Below w.heap.size w w2 := B1.trans (B2.mono (by omega))
  have o1 : w.heap.size < w1.heap.size := s1
  have o2 : w1.heap.size < w2.heap.size := s2
  generalize hg0 : w.heap.size = g0 at *
  generalize w1.heap.size = g1 at *
  go_loopw [8] (fun i wr => ∃ k : Nat, k ≤ 4 ∧ i = .int .i64 k ∧ Ar wr g0 0 .u8 (prm xs ms k) ∧ Ar wr g1 0 .u8 z16 ∧ Below g0 w wr ∧ g1 < wr.heap.size) (fun i _ => 4 - (intOf i).toNat)
  case atStart => exact ⟨0, Nat.zero_le _, rfl, by rw [HZ.out.1]; exact D1.out, HA2.out, BW, o2⟩
  case round =>
    obtain ⟨k, hk, rfl, hA, hR, hB, hS⟩ := hrel
    have k0 : (0 : Int) ≤ (k : Int) := by omega
    have q1 : IntKind.i64.wrap (k : Int) = k := by rw [IntKind.wrap_i64]; omega
    have HA : Hid (Ar wr g0 0 .u8 (prm xs ms k)) := hA
    have HR : Hid (Ar wr g1 0 .u8 z16) := hR
    have HB : Hid (Below g0 w wr) := hB
    clear hA hR hB
    by_cases hlt : k < 4
    · have k1 : (k : Int) < 4 := by omega
      have CL : Hid ((cut4 xs k).length = 4) := cut4_len xs k (by rw [HX.out.1]; omega)
      have CM : Hid ((cut4 ms k).length = 4) := cut4_len ms k (by rw [ML.out]; omega)
      have HMk : Hid (∀ w0, Calls Tryd.prog 55 #[.agg (ints .u8 (cut4 xs k))] w0 fun e w' => e = .returned (.agg (ints .u8 (cut4 ms k))) ∧ Below w0.heap.size w0 w') := HM.out k hlt
      have FC : Hid (laid (prm xs ms k) (4 * k) (cut4 ms k) = prm xs ms (k + 1)) := prm_lay xs ms k hlt ML.out
      obtain ⟨cs, hcs⟩ : ∃ cs, cs = cut4 xs k := ⟨_, rfl⟩
      have HCS : Hid (cs = cut4 xs k) := hcs
      rw [← hcs] at CL HMk
      generalize cut4 ms k = ds at *
      clear hcs
      go_wp2_with (first
        | (refine idx_st _ rfl (.tmp 7) (.tmp 8) rfl xs _ k rfl rfl rfl hlt cs HCS.out ?_)
        | (refine new_lawF _ rfl 69 rfl .u8 z4 z_arr4 ?_; intro w3 A3 B3 s3; have HA3 : Hid (Ar w3 wr.heap.size 0 .u8 z4) := A3; clear A3)
        | (have q3 := s3; refine store_lawF _ rfl (.tmp 6) (.tmp 11) 69 rfl .u8 z4 cs wr.heap.size rfl rfl HA3.out 4 i_arr4 rfl CL.out ?_; intro w4 A4 B4; have HA4 : Hid (Ar w4 wr.heap.size 0 .u8 cs) := A4; clear A4; have B34 : Below wr.heap.size wr w4 := B3.trans (B4.mono (by omega)))
        | (refine load_law _ rfl (.tmp 6) 69 rfl .u8 cs wr.heap.size 0 rfl HA4.out 4 5 Tryd.underlying69 i_arr4 CL.out ?_)
        | (go_at_call 55; refine (HMk.out _).mono ?_; rintro e w5 ⟨rfl, B5⟩; have BB : Below wr.heap.size wr w5 := B34.trans (B5.mono B34.size); have HA5 : Hid (Ar w5 g0 0 .u8 (prm xs ms k)) := HA.out.below BB (by omega))
        | (have q5 := HA5; refine store_lawM _ rfl (.tmp 16) (.tmp 15) 69 rfl (prm xs ms k) ds g0 (4 * k) (by rw [Nat.mul_comm 4 k]; rfl) rfl HA5.out 4 i_arr4 CM.out (by rw [prm_len]; omega) ?_; intro w6 A6 B6 C6; rw [FC.out] at A6; have HR6 : Hid (Ar w6 g1 0 .u8 z16) := C6 g1 0 .u8 z16 (by omega) (HR.out.below BB hS); clear C6; have HA6 : Hid (Ar w6 g0 0 .u8 (prm xs ms (k + 1))) := A6; clear A6))
      have BR : Below wr.heap.size wr w5 := BB
      have HB6 : Hid (Below g0 w w6) := (HB.out.trans (BR.mono (by omega))).trans B6
      go_roundw
      case rel => exact ⟨k + 1, by omega, by go_num, HA6.out, HR6.out, HB6.out, HR6.out.lt (by rw [z16_len]; omega)⟩
      case measure => simp [intOf]; omega
    · have hk4 : k = 4 := by omega
      subst hk4
      have HA4 : Hid (Ar wr g0 0 .u8 ms) := by have := HA.out; rw [HZ.out.2] at this; exact this
      clear HA
      go_wp2_with (first
        | (refine load_lawN _ rfl (.tmp 2) 71 rfl .u8 ms g0 0 rfl HA4.out 4 16 69 Tryd.underlying71 i_st ML.out ?_)
        | (refine store_lawF _ rfl (.tmp 4) (.tmp 18) 71 rfl .u8 z16 ms g1 rfl rfl HR.out 16 i_st z16_len ML.out ?_; intro w7 A7 B7))
      refine bodyPost_ret (v := .agg (ints .u8 ms)) (results_arN rfl _ _ g1 0 .u8 ms rfl A7 4 16 69 Tryd.underlying71 i_st ML.out) rfl ⟨rfl, ?_⟩
      rw [hg0]
      exact HB.out.trans (B7.mono (by omega))

set_option maxHeartbeats 2000000 in
theorem put_subs (xs : List Int) (w : World) (hx : Blk xs) :
    Calls Tryd.prog 51 #[.agg (ints .u8 xs), .func (.func 52) #[] #[]] w fun e w' => e = .returned (.agg (ints .u8 (looked ptab xs))) ∧ Below w.heap.size w w' := by
  have HX : Hid (Blk xs) := hx
  have HLi : Hid (∀ w0, Calls Tryd.prog 56 #[.agg (ints .u8 xs)] w0 fun e w' => ∃ g, e = .returned (.slice (some ⟨g, 0, none⟩) 16 16) ∧ Ar w' g 0 .u8 xs ∧ w0.heap.size ≤ g ∧ Below w0.heap.size w0 w') := fun w0 => list_any xs w0 hx.1 hx.2
  have HS : Hid (∀ v w0, Byt w0 v xs → Calls Tryd.prog 52 #[v] w0 fun e w' => ∃ v', e = .returned v' ∧ Byt w' v' (looked ptab xs) ∧ Below w0.heap.size w0 w') := fun v w0 h => subs_any v xs w0 h (by rw [hx.1]; omega)
  have hb := looked_blk ptab xs pAll hx.1
  have HO : Hid (∀ v w0, Byt w0 v (looked ptab xs) → Calls Tryd.prog 49 #[v] w0 fun e w' => e = .returned (.agg (ints .u8 (looked ptab xs))) ∧ Below w0.heap.size w0 w') := fun v w0 h => of_any v _ w0 h hb.1
  have ZL : Hid ((looked ptab xs).length = 16) := hb.1
  generalize looked ptab xs = zs at *
  clear hx hb
  go_enter Tryd.func51, Tryd.ntmps51
  go_wp2_with (first
    | (refine box_lawF _ rfl (.tmp 0) 71 rfl .u8 xs rfl ?_; intro w1 A1 B1 s1; have HA1 : Hid (Ar w1 w.heap.size 0 .u8 xs) := A1; clear A1)
    | (have q1 := s1; refine new_lawF _ rfl 71 rfl .u8 z16 z_st ?_; intro w2 A2 B2 s2; have HA2 : Hid (Ar w2 w1.heap.size 0 .u8 z16) := A2; clear A2)
    | (have q2 := s2; refine load_lawN _ rfl (.tmp 2) 71 rfl .u8 xs w.heap.size 0 rfl (HA1.out.below B2 s1) 4 16 69 Tryd.underlying71 i_st HX.out.1 ?_)
    | (go_at_call 49; refine (HO.out _ _ Y4.out).mono ?_; rintro e w5 ⟨rfl, B5⟩; have D5 : Hid (Ar w5 w1.heap.size 0 .u8 z16) := ((HA2.out.below B3 s2).below B4 (by have := B3.size; omega)).below B5 (by have := B3.size; have := B4.size; omega))
    | (go_at_call 52; refine (HS.out _ _ Y3.out).mono ?_; rintro e w4 ⟨v4, rfl, y4, B4⟩; have Y4 : Hid (Byt w4 v4 zs) := y4; clear y4)
    | (go_at_call 56; refine (HLi.out _).mono ?_; rintro e w3 ⟨g, rfl, A3, L3, B3⟩; have Y3 : Hid (Byt w3 (.slice (some ⟨g, 0, none⟩) 16 16) xs) := A3.bytG HX.out.2 16 16 HX.out.1 (by omega) (by omega); clear A3)
    | (have q5 := D5; refine store_lawF _ rfl (.tmp 4) (.tmp 9) 71 rfl .u8 z16 zs w1.heap.size rfl rfl D5.out 16 i_st z16_len ZL.out ?_; intro w6 A6 B6))
  refine bodyPost_ret (v := .agg (ints .u8 zs)) (results_arN rfl _ _ w1.heap.size 0 .u8 zs rfl A6 4 16 69 Tryd.underlying71 i_st ZL.out) rfl ⟨rfl, ?_⟩
  have z3 := B3.size
  have z4_ := B4.size
  exact ((((B1.trans (B2.mono (by omega))).trans (B3.mono (by omega))).trans (B4.mono (by omega))).trans (B5.mono (by omega))).trans (B6.mono (by omega))
end Go.Proofs.YtifepmdhbhdjpaaDoor

/- What aes' takes and Encrypt answer. No claim of its own. -/
namespace Go.Proofs.YtifepmdhbhdjpaaDoor
open Go.RowKit
set_option maxRecDepth 20000

set_option maxHeartbeats 1000000 in
theorem takes_yes (v : Value) (xs key : List Int) (kb : Nat) (w : World) (hk : KeyA w kb key) (hv : Byt w v xs) (hl : xs.length = 16) :
    Calls Tryd.prog 48 #[.pointer (some ⟨kb, 0, none⟩), v] w fun e w' => e = .returned (.bool true) ∧ w' = w := by
  have c := hk.1
  obtain ⟨ao, ca, rfl, -, -, -, -, -⟩ := hv
  rw [hl]
  clear hk hl
  go_enter Tryd.func48, Tryd.ntmps48
  go_wp2
  go_ret
  exact ⟨rfl, rfl⟩
set_option maxHeartbeats 1000000 in
theorem takes_len (v : Value) (xs key : List Int) (kb : Nat) (w : World) (hk : KeyA w kb key) (hv : Byt w v xs) (hl : ¬ xs.length = 16) :
    Calls Tryd.prog 48 #[.pointer (some ⟨kb, 0, none⟩), v] w fun e w' => e = .returned (.bool false) ∧ w' = w := by
  have c := hk.1
  obtain ⟨ao, ca, rfl, h1, h2, -, -, -⟩ := hv
  have h3 : ¬ ((xs.length : Int) = 16) := by omega
  clear hk hl
  generalize xs.length = n at *
  go_enter Tryd.func48, Tryd.ntmps48
  go_wp2
  go_ret
  exact ⟨ret_bool (by simpa using h3), rfl⟩
set_option maxHeartbeats 1000000 in
theorem takes_nil (v : Value) (w : World) :
    Calls Tryd.prog 48 #[.pointer none, v] w fun e w' => e = .returned (.bool false) ∧ w' = w := by
  go_enter Tryd.func48, Tryd.ntmps48
  go_wp2
  go_ret
  exact ⟨rfl, rfl⟩
set_option maxHeartbeats 1000000 in
theorem takes_raw (v : Value) (kb : Nat) (w : World) (c : w.cell? ⟨kb, 0, none⟩ = some (.bool false)) :
    Calls Tryd.prog 48 #[.pointer (some ⟨kb, 0, none⟩), v] w fun e w' => e = .returned (.bool false) ∧ w' = w := by
  go_enter Tryd.func48, Tryd.ntmps48
  go_wp2
  go_ret
  exact ⟨rfl, rfl⟩
end Go.Proofs.YtifepmdhbhdjpaaDoor

/- What aes' Encrypt answers. No claim of its own. -/
namespace Go.Proofs.YtifepmdhbhdjpaaDoor
open Go.RowKit
set_option maxRecDepth 20000

/-- what a load yields -/
theorem exec_load {ev : Operand → Value} {o : Oper} (t : TypeId) (x : Operand) (hop : o.op = Op.load t x) (p : Value) (hx : ev x = p) (v : Value) (w : World) (hr : (Instr.loadAt t p).run Tryd.prog w = .ok v w) : (execOp ev o).run Tryd.prog w = .ok (.value v) w := by
  unfold execOp
  simp only [hop, hx, Sem.run_bind, Sem.run_pure, Result.andThen_ok, hr]
/-- a call's contract, in a class of worlds -/
theorem in_class {f : FuncId} {vs : Array Value} {v : Value} {wr : World} (h : ∀ w0, Calls Tryd.prog f vs w0 fun e w' => e = .returned v ∧ Below w0.heap.size w0 w') :
    ∀ w', Below wr.heap.size wr w' → Calls Tryd.prog f vs w' fun e w'' => e = .returned v ∧ Below wr.heap.size wr w'' := fun w' hb =>
  (h w').mono fun _ _ h' => ⟨h'.1, hb.trans (h'.2.mono hb.size)⟩

set_option linter.unusedSimpArgs false in
set_option maxRecDepth 20000 in
set_option maxHeartbeats 8000000 in
theorem encrypt_any (v : Value) (xs key : List Int) (kb : Nat) (w : World) (hk : KeyA w kb key) (hkl : key.length = 32) (hka : AllB key) (hv : Byt w v xs) (hl : xs.length = 16) :
    Calls Tryd.prog 43 #[.pointer (some ⟨kb, 0, none⟩), v] w fun e w' => ∃ g, e = .returned (.tuple #[.slice (some ⟨g, 0, none⟩) 16 16, .int .i64 0]) ∧ Ar w' g 0 .u8 (encr key xs) ∧ w.heap.size ≤ g ∧ Below w.heap.size w w' := by
  have HKB : Hid (∀ r, Blk (rk key r)) := fun r => rk_blk key hkl hka r
  have HKR : Hid (∀ w', KeyA w' kb key → ∀ r, r < 15 → Ar w' kb (1 + 16 * r) .u8 (rk key r)) := fun w' h r hr => h.round hkl hka r hr
  have HK : Hid (KeyA w kb key) := hk
  have HV : Hid (Byt w v xs) := hv
  have hkw : kb < w.heap.size := hk.lt
  have HO : Hid (∀ w0, Byt w0 v xs → Calls Tryd.prog 49 #[v] w0 fun e w' => e = .returned (.agg (ints .u8 xs)) ∧ Below w0.heap.size w0 w') := fun w0 h => of_any v xs w0 h hl
  have HT : Hid (Calls Tryd.prog 48 #[.pointer (some ⟨kb, 0, none⟩), v] w fun e w' => e = .returned (.bool true) ∧ w' = w) := takes_yes v xs key kb w hk hv hl
  have hxb : Blk xs := ⟨hl, hv.all⟩
  have HEB : Hid (∀ r, Blk (enc key xs r)) := fun r => enc_blk key hkl hka xs hxb r
  have HES : Hid (∀ r, r < 13 → enc key xs (r + 1) = xorl (mixb (shl16 (looked ptab (enc key xs r)) 1) mixW) (rk key (r + 1))) := fun r hr => by
    rw [enc, fw, mx, if_pos (by omega)]
  have HEL : Hid (encr key xs = xorl (shl16 (looked ptab (enc key xs 13)) 1) (rk key 14)) := by
    show _ = _
    rw [encr, enc, fw, mx, if_neg (by omega)]
  have HX0 : Hid (∀ w0, Calls Tryd.prog 50 #[.agg (ints .u8 xs), .agg (ints .u8 (rk key 0))] w0 fun e w' => e = .returned (.agg (ints .u8 (enc key xs 0))) ∧ Below w0.heap.size w0 w') := fun w0 => xored_any xs (rk key 0) w0 hxb (HKB.out 0)
  have HE0 : Hid ((enc key xs 0).length = 16) := (HEB.out 0).1
  have RD0 : Hid (∀ w', Below w.heap.size w w' → (Instr.loadAt 71 (.pointer (some ⟨kb, 1, none⟩))).run Tryd.prog w' = .ok (.agg (ints .u8 (rk key 0))) w') := fun w' h => by
    have hA := HKR.out w' (HK.out.below h hkw) 0 (by omega)
    have := run_loadVar_mid (P := Tryd.prog) w' kb 1 71 _ _ hA.1 Tryd.underlying71 rfl (by rw [i_st]; simp [(HKB.out 0).1])
    simp only [Instr.loadAt, Instr.sureAddr, Sem.run_bind, Sem.run_pure, Result.andThen_ok, this]
    rfl
  obtain ⟨ao, ca, rfl, ha1, -, -, -, ha5⟩ := hv
  obtain ⟨bb, bo, rfl, -⟩ := ha5 (by omega)
  rw [hl] at HV HO HT ha1 ⊢
  obtain ⟨e0, he0⟩ : ∃ e, e = enc key xs 0 := ⟨_, rfl⟩
  obtain ⟨k0, hk0⟩ : ∃ e, e = rk key 0 := ⟨_, rfl⟩
  have HEE : Hid (e0 = enc key xs 0) := he0
  rw [← he0, ← hk0] at HX0
  rw [← he0] at HE0
  rw [← hk0] at RD0
  have ZB : Hid (Blk (encr key xs)) := HEB.out 14
  generalize encr key xs = zs at *
  clear ha5 hl hk hkl hka hxb he0 hk0
  go_enter Tryd.func43, Tryd.ntmps43
  go_wp2_with (go_at_call 48; refine (HT.out).mono ?_; rintro e w1 ⟨rfl, hw⟩; obtain rfl := hw.symm)
  go_cut [6] (fun r6 wc => ∃ c : Nat, r6 = .pointer (some ⟨c, 0, none⟩) ∧ w.heap.size ≤ c ∧ Ar wc c 0 .u8 e0 ∧ Below w.heap.size w wc)
  case first =>
    refine wp_region_held_drew (S := fun w' => Below w.heap.size w w') (by kernel_rfl) (Below.refl _ _).drew (fun hS => ?_)
    refine take_lawH 0 (some 12) (.slice (some ⟨bb, bo, none⟩) 16 ca) rfl rfl (by kernel_rfl) (by kernel_rfl) (by kernel_rfl) (fun _ _ _ h => h) (Or.inl ⟨by rfl, fun w' hw' => by rfl⟩) hS ?_
    simp only [Act.put, List.setIfInBounds_toArray, List.set_cons_zero, List.set_cons_succ]
    refine take_lawH 2 (some 14) (.pointer (some ⟨kb, 0, none⟩)) rfl rfl (by kernel_rfl) (by kernel_rfl) (by kernel_rfl) (fun _ _ _ h => h) (Or.inl ⟨by rfl, fun w' hw' => by rfl⟩) hS ?_
    simp only [Act.put, List.setIfInBounds_toArray, List.set_cons_zero, List.set_cons_succ]
    refine take_lawH 3 (some 15) (.pointer (some ⟨kb, 0, none⟩)) rfl rfl (by kernel_rfl) (by kernel_rfl) (by kernel_rfl) (fun _ _ _ h => h) (Or.inl ⟨by rfl, fun w' hw' => by rfl⟩) hS ?_
    simp only [Act.put, List.setIfInBounds_toArray, List.set_cons_zero, List.set_cons_succ]
    refine take_lawH 4 (some 16) (.pointer (some ⟨kb, 1, none⟩)) rfl rfl (by kernel_rfl) (by kernel_rfl) (by kernel_rfl) (fun _ _ _ h => h) (Or.inl ⟨by rfl, fun w' hw' => by rfl⟩) hS ?_
    simp only [Act.put, List.setIfInBounds_toArray, List.set_cons_zero, List.set_cons_succ]
    refine take_lawH 5 (some 17) (.pointer (some ⟨kb, 1, none⟩)) rfl rfl (by kernel_rfl) (by kernel_rfl) (by kernel_rfl) (fun _ _ _ h => h) (Or.inl ⟨by rfl, fun w' hw' => by go_simp⟩) hS ?_
    simp only [Act.put, List.setIfInBounds_toArray, List.set_cons_zero, List.set_cons_succ]
    refine take_lawH 6 (some 18) (.agg (ints .u8 k0)) rfl rfl (by kernel_rfl) (by kernel_rfl) (by kernel_rfl) (fun _ _ _ h => h) (Or.inl ⟨by rfl, fun w' hw' => by exact exec_load 71 (.tmp 17) rfl _ rfl _ _ (RD0.out w' hw')⟩) hS ?_
    simp only [Act.put, List.setIfInBounds_toArray, List.set_cons_zero, List.set_cons_succ]
    obtain ⟨x0, hx0⟩ : ∃ x, x = w.drew := ⟨_, rfl⟩
    rw [← hx0] at hS ⊢
    have b0 := hS
    clear hx0
    refine wpAnyH_ready (rs := [1, 8]) (by kernel_rfl) (by simp) ?_
    refine AllReadyH.cons rfl (fun K hK => ?_) (AllReadyH.cons rfl (fun K hK => ?_) AllReadyH.nil)
    · refine step_callD _ rfl (some 13) rfl 49 #[.tmp 12] #[23] rfl (fun q w' => by rfl) #[.slice (some ⟨bb, bo, none⟩) 16 ca] (by simp only [List.map_toArray, List.map_cons, List.map_nil]; rfl) (.agg (ints .u8 xs)) _ (HO.out x0 (HV.out.below b0)) fun x1 c1 => ?_
      have b1 : Below w.heap.size w x1 := b0.trans (c1.mono b0.size)
      refine hK.out _ _ b1 (fun _ => ?_)
      simp only [Act.put, List.setIfInBounds_toArray, List.set_cons_zero, List.set_cons_succ]
      refine wpAnyH_ready (rs := [7, 8]) (by kernel_rfl) (by simp) ?_
      refine AllReadyH.cons rfl (fun K hK => ?_) (AllReadyH.cons rfl (fun K hK => ?_) AllReadyH.nil)
      · refine step_callD _ rfl (some 19) rfl 50 #[.tmp 13, .tmp 18] #[71, 71] rfl (fun q w' => by rfl) #[.agg (ints .u8 xs), .agg (ints .u8 k0)] (by simp only [List.map_toArray, List.map_cons, List.map_nil]; rfl) (.agg (ints .u8 e0)) _ (HX0.out x1) fun x2 c2 => ?_
        have b2 : Below w.heap.size w x2 := b1.trans (c2.mono b1.size)
        refine hK.out _ _ b2 (fun _ => ?_)
        simp only [Act.put, List.setIfInBounds_toArray, List.set_cons_zero, List.set_cons_succ]
        refine wpAnyH_ready (rs := [8]) (by kernel_rfl) (by simp) ?_
        refine AllReadyH.cons rfl (fun K hK => ?_) AllReadyH.nil
        refine step_newG _ rfl (some 6) rfl 71 rfl .u8 z16 z_st fun x3 a3 c3 l3 => ?_
        have b3 : Below w.heap.size w x3 := b2.trans (c3.mono b2.size)
        have gl := b2.size
        refine hK.out _ _ b3 (fun _ => ?_)
        simp only [Act.put, List.setIfInBounds_toArray, List.set_cons_zero, List.set_cons_succ]
        generalize x2.heap.size = gg at *
        refine wpAnyH_ready (rs := [9]) (by kernel_rfl) (by simp) ?_
        refine AllReadyH.cons rfl (fun K hK => ?_) AllReadyH.nil
        refine step_storeG _ rfl none rfl (.tmp 6) (.tmp 19) 71 rfl .u8 z16 e0 gg rfl rfl a3 16 i_st z16_len HE0.out fun x4 a4 c4 => ?_
        have b4 : Below w.heap.size w x4 := b3.trans (c4.mono gl)
        refine hK.out _ _ b4 (fun _ => ?_)
        simp only [Act.put, List.setIfInBounds_toArray, List.set_cons_zero, List.set_cons_succ]
        refine wpAnyH_done (by kernel_rfl) ?_ _
        go_wp2_with fail
        go_meet
        exact ⟨gg, rfl, gl, a4, b4⟩
      · refine step_newG _ rfl (some 6) rfl 71 rfl .u8 z16 z_st fun x5 a5 c5 l5 => ?_
        have b5 : Below w.heap.size w x5 := b1.trans (c5.mono b1.size)
        have gl := b1.size
        refine hK.out _ _ b5 (fun _ => ?_)
        simp only [Act.put, List.setIfInBounds_toArray, List.set_cons_zero, List.set_cons_succ]
        generalize x1.heap.size = gg at *
        refine wpAnyH_ready (rs := [7]) (by kernel_rfl) (by simp) ?_
        refine AllReadyH.cons rfl (fun K hK => ?_) AllReadyH.nil
        refine step_callD _ rfl (some 19) rfl 50 #[.tmp 13, .tmp 18] #[71, 71] rfl (fun q w' => by rfl) #[.agg (ints .u8 xs), .agg (ints .u8 k0)] (by simp only [List.map_toArray, List.map_cons, List.map_nil]; rfl) (.agg (ints .u8 e0)) _ (HX0.out x5) fun x6 c6 => ?_
        have b6 : Below w.heap.size w x6 := b5.trans (c6.mono b5.size)
        have a6 : Ar x6 gg 0 .u8 z16 := a5.below c6 l5
        have l6 : gg < x6.heap.size := Nat.lt_of_lt_of_le l5 c6.size
        refine hK.out _ _ b6 (fun _ => ?_)
        simp only [Act.put, List.setIfInBounds_toArray, List.set_cons_zero, List.set_cons_succ]
        refine wpAnyH_ready (rs := [9]) (by kernel_rfl) (by simp) ?_
        refine AllReadyH.cons rfl (fun K hK => ?_) AllReadyH.nil
        refine step_storeG _ rfl none rfl (.tmp 6) (.tmp 19) 71 rfl .u8 z16 e0 gg rfl rfl a6 16 i_st z16_len HE0.out fun x7 a7 c7 => ?_
        have b7 : Below w.heap.size w x7 := b6.trans (c7.mono gl)
        refine hK.out _ _ b7 (fun _ => ?_)
        simp only [Act.put, List.setIfInBounds_toArray, List.set_cons_zero, List.set_cons_succ]
        refine wpAnyH_done (by kernel_rfl) ?_ _
        go_wp2_with fail
        go_meet
        exact ⟨gg, rfl, gl, a7, b7⟩
    · refine step_newG _ rfl (some 6) rfl 71 rfl .u8 z16 z_st fun x8 a8 c8 l8 => ?_
      have b8 : Below w.heap.size w x8 := b0.trans (c8.mono b0.size)
      have gl := b0.size
      refine hK.out _ _ b8 (fun _ => ?_)
      simp only [Act.put, List.setIfInBounds_toArray, List.set_cons_zero, List.set_cons_succ]
      generalize x0.heap.size = gg at *
      refine wpAnyH_ready (rs := [1]) (by kernel_rfl) (by simp) ?_
      refine AllReadyH.cons rfl (fun K hK => ?_) AllReadyH.nil
      refine step_callD _ rfl (some 13) rfl 49 #[.tmp 12] #[23] rfl (fun q w' => by rfl) #[.slice (some ⟨bb, bo, none⟩) 16 ca] (by simp only [List.map_toArray, List.map_cons, List.map_nil]; rfl) (.agg (ints .u8 xs)) _ (HO.out x8 (HV.out.below b8)) fun x9 c9 => ?_
      have b9 : Below w.heap.size w x9 := b8.trans (c9.mono b8.size)
      have a9 : Ar x9 gg 0 .u8 z16 := a8.below c9 l8
      have l9 : gg < x9.heap.size := Nat.lt_of_lt_of_le l8 c9.size
      refine hK.out _ _ b9 (fun _ => ?_)
      simp only [Act.put, List.setIfInBounds_toArray, List.set_cons_zero, List.set_cons_succ]
      refine wpAnyH_ready (rs := [7]) (by kernel_rfl) (by simp) ?_
      refine AllReadyH.cons rfl (fun K hK => ?_) AllReadyH.nil
      refine step_callD _ rfl (some 19) rfl 50 #[.tmp 13, .tmp 18] #[71, 71] rfl (fun q w' => by rfl) #[.agg (ints .u8 xs), .agg (ints .u8 k0)] (by simp only [List.map_toArray, List.map_cons, List.map_nil]; rfl) (.agg (ints .u8 e0)) _ (HX0.out x9) fun x10 c10 => ?_
      have b10 : Below w.heap.size w x10 := b9.trans (c10.mono b9.size)
      have a10 : Ar x10 gg 0 .u8 z16 := a9.below c10 l9
      have l10 : gg < x10.heap.size := Nat.lt_of_lt_of_le l9 c10.size
      refine hK.out _ _ b10 (fun _ => ?_)
      simp only [Act.put, List.setIfInBounds_toArray, List.set_cons_zero, List.set_cons_succ]
      refine wpAnyH_ready (rs := [9]) (by kernel_rfl) (by simp) ?_
      refine AllReadyH.cons rfl (fun K hK => ?_) AllReadyH.nil
      refine step_storeG _ rfl none rfl (.tmp 6) (.tmp 19) 71 rfl .u8 z16 e0 gg rfl rfl a10 16 i_st z16_len HE0.out fun x11 a11 c11 => ?_
      have b11 : Below w.heap.size w x11 := b10.trans (c11.mono gl)
      refine hK.out _ _ b11 (fun _ => ?_)
      simp only [Act.put, List.setIfInBounds_toArray, List.set_cons_zero, List.set_cons_succ]
      refine wpAnyH_done (by kernel_rfl) ?_ _
      go_wp2_with fail
      go_meet
      exact ⟨gg, rfl, gl, a11, b11⟩
  case rest =>
    obtain ⟨g6, rfl, hg6, hA0, hB0⟩ := hcut
    clear HX0 RD0 HE0
    rw [HEE.out] at hA0
    go_wp2
    go_loopw [7] (fun i wr => ∃ r : Nat, 1 ≤ r ∧ r ≤ 14 ∧ i = .int .i64 r ∧ Ar wr g6 0 .u8 (enc key xs (r - 1)) ∧ Below w.heap.size w wr) (fun i _ => 14 - (intOf i).toNat)
    case atStart => exact ⟨1, Nat.le_refl _, by omega, rfl, hA0, hB0⟩
    case round =>
      obtain ⟨r, hr1, hr, rfl, hA, hB⟩ := hrel
      have q0 : (0 : Int) ≤ (r : Int) := by omega
      have q1 : IntKind.i64.wrap (r : Int) = r := by rw [IntKind.wrap_i64]; omega
      have hgw : g6 < wr.heap.size := hA.lt (by rw [(HEB.out _).1]; omega)
      have hkk : kb < wr.heap.size := by have := hB.size; omega
      have LS : Hid (∀ w', Below wr.heap.size wr w' → Ar w' g6 0 .u8 (enc key xs (r - 1))) := fun w' h => hA.below h hgw
      have LL : Hid ((enc key xs (r - 1)).length = 16) := (HEB.out _).1
      have sb1 := HEB.out (r - 1)
      have sb2 := looked_blk ptab _ pAll sb1.1
      have sb3 := shl16_blk _ 1 sb2
      have P1 : Hid (∀ w', Below wr.heap.size wr w' → Calls Tryd.prog 51 #[.agg (ints .u8 (enc key xs (r - 1))), .func (.func 52) #[] #[]] w' fun e w'' => e = .returned (.agg (ints .u8 (looked ptab (enc key xs (r - 1))))) ∧ Below wr.heap.size wr w'') := in_class fun w0 => put_subs _ w0 sb1
      have P2 : Hid (∀ w', Below wr.heap.size wr w' → Calls Tryd.prog 53 #[.agg (ints .u8 (looked ptab (enc key xs (r - 1)))), .int .i64 1] w' fun e w'' => e = .returned (.agg (ints .u8 (shl16 (looked ptab (enc key xs (r - 1))) 1))) ∧ Below wr.heap.size wr w'') := in_class fun w0 => shifted_any _ 1 1 w0 sb2 stp_one
      by_cases hlt : r < 14
      · have k1 : (r : Int) < 14 := by omega
        have P3 : Hid (∀ w', Below wr.heap.size wr w' → Calls Tryd.prog 54 #[.agg (ints .u8 (shl16 (looked ptab (enc key xs (r - 1))) 1)), .func (.func 55) #[] #[]] w' fun e w'' => e = .returned (.agg (ints .u8 (mixb (shl16 (looked ptab (enc key xs (r - 1))) 1) mixW))) ∧ Below wr.heap.size wr w'') := in_class fun w0 => mixed_mix _ w0 sb3
        have P4 : Hid (∀ w', Below wr.heap.size wr w' → Calls Tryd.prog 50 #[.agg (ints .u8 (mixb (shl16 (looked ptab (enc key xs (r - 1))) 1) mixW)), .agg (ints .u8 (rk key r))] w' fun e w'' => e = .returned (.agg (ints .u8 (enc key xs r))) ∧ Below wr.heap.size wr w'') := in_class fun w0 => by
          have e := HES.out (r - 1) (by omega)
          rw [show r - 1 + 1 = r by omega] at e
          rw [e]
          exact xored_any _ _ w0 (mixb_blk _ _ mixW_col) (HKB.out r)
        have LK : Hid (∀ w', Below wr.heap.size wr w' → Ar w' kb (1 + 16 * r) .u8 (rk key r)) := fun w' h => HKR.out w' ((HK.out.below hB hkw).below h hkk) r (by omega)
        have KL : Hid ((rk key r).length = 16) := (HKB.out r).1
        have EL : Hid ((enc key xs r).length = 16) := (HEB.out r).1
        have HA : Hid (Ar wr g6 0 .u8 (enc key xs (r - 1))) := hA
        have HB : Hid (Below w.heap.size w wr) := hB
        have HN : Hid (enc key xs (r + 1 - 1) = enc key xs r) := rfl
        clear hA hB sb1 sb2 sb3
        generalize enc key xs r = s4 at *
        generalize mixb (shl16 (looked ptab (enc key xs (r - 1))) 1) mixW = s3 at *
        generalize shl16 (looked ptab (enc key xs (r - 1))) 1 = s2 at *
        generalize looked ptab (enc key xs (r - 1)) = s1 at *
        generalize enc key xs (r - 1) = ss at *
        generalize rk key r = kr at *
        go_wp2
        refine wp_region_any (by kernel_rfl) ?_
        refine wpAny_quiet_then (C := fun w' => Below wr.heap.size wr w') 0 11 1 _ (by kernel_rfl) rfl (by kernel_rfl) (by kernel_rfl) (Below.refl _ _).drew ?_
        simp only [List.take_succ_cons, List.take_zero, List.drop_zero]
        refine wpQuiet_step (fun K hK => ?_)
        refine q_loadA (by rfl) (some 24) rfl (.tmp 6) 71 rfl .u8 ss g6 0 rfl LS.out 4 16 69 Tryd.underlying71 i_st LL.out (hK _ ?_)
        simp only [Act.put, List.setIfInBounds_toArray, List.set_cons_zero, List.set_cons_succ]
        clear hK K
        refine wpQuiet_step (fun K hK => ?_)
        refine q_call (by rfl) (some 25) rfl 51 #[.tmp 24, .func 52] #[71, 51] rfl (fun q w' => by rfl) #[.agg (ints .u8 ss), .func (.func 52) #[] #[]] (by simp only [List.map_toArray, List.map_cons, List.map_nil]; rfl) (.agg (ints .u8 s1)) P1.out (hK _ ?_)
        simp only [Act.put, List.setIfInBounds_toArray, List.set_cons_zero, List.set_cons_succ]
        clear hK K
        refine wpQuiet_step (fun K hK => ?_)
        refine q_call (by rfl) (some 26) rfl 53 #[.tmp 25, .const (.int .i64 1)] #[71, 3] rfl (fun q w' => by rfl) #[.agg (ints .u8 s1), .int .i64 1] (by simp only [List.map_toArray, List.map_cons, List.map_nil]; rfl) (.agg (ints .u8 s2)) P2.out (hK _ ?_)
        simp only [Act.put, List.setIfInBounds_toArray, List.set_cons_zero, List.set_cons_succ]
        clear hK K
        refine wpQuiet_step (fun K hK => ?_)
        refine q_call (by rfl) (some 27) rfl 54 #[.tmp 26, .func 55] #[71, 86] rfl (fun q w' => by rfl) #[.agg (ints .u8 s2), .func (.func 55) #[] #[]] (by simp only [List.map_toArray, List.map_cons, List.map_nil]; rfl) (.agg (ints .u8 s3)) P3.out (hK _ ?_)
        simp only [Act.put, List.setIfInBounds_toArray, List.set_cons_zero, List.set_cons_succ]
        clear hK K
        refine wpQuiet_step (fun K hK => ?_)
        refine q_val (by rfl) (some 28) rfl (.pointer (some ⟨kb, 0, none⟩)) (fun w' _ => by rfl) (hK _ ?_)
        simp only [Act.put, List.setIfInBounds_toArray, List.set_cons_zero, List.set_cons_succ]
        clear hK K
        refine wpQuiet_step (fun K hK => ?_)
        refine q_val (by rfl) (some 29) rfl (.int .i64 (r : Int)) (fun w' _ => by rfl) (hK _ ?_)
        simp only [Act.put, List.setIfInBounds_toArray, List.set_cons_zero, List.set_cons_succ]
        clear hK K
        refine wpQuiet_step (fun K hK => ?_)
        refine q_val (by rfl) (some 30) rfl (.pointer (some ⟨kb, 0, none⟩)) (fun w' _ => by rfl) (hK _ ?_)
        simp only [Act.put, List.setIfInBounds_toArray, List.set_cons_zero, List.set_cons_succ]
        clear hK K
        refine wpQuiet_step (fun K hK => ?_)
        refine q_val (by rfl) (some 31) rfl (.pointer (some ⟨kb, 1, none⟩)) (fun w' _ => by rfl) (hK _ ?_)
        simp only [Act.put, List.setIfInBounds_toArray, List.set_cons_zero, List.set_cons_succ]
        clear hK K
        refine wpQuiet_step (fun K hK => ?_)
        refine q_idxA (by rfl) (some 32) rfl (.tmp 31) (.tmp 29) 72 rfl kb 1 (1 + 16 * r) 15 16 r ua_sts la_sts ia_sts rfl rfl (by omega) (by omega) (hK _ ?_)
        simp only [Act.put, List.setIfInBounds_toArray, List.set_cons_zero, List.set_cons_succ]
        clear hK K
        refine wpQuiet_step (fun K hK => ?_)
        refine q_loadA (by rfl) (some 33) rfl (.tmp 32) 71 rfl .u8 kr kb (1 + 16 * r) rfl LK.out 4 16 69 Tryd.underlying71 i_st KL.out (hK _ ?_)
        simp only [Act.put, List.setIfInBounds_toArray, List.set_cons_zero, List.set_cons_succ]
        clear hK K
        refine wpQuiet_step (fun K hK => ?_)
        refine q_call (by rfl) (some 34) rfl 50 #[.tmp 27, .tmp 33] #[71, 71] rfl (fun q w' => by rfl) #[.agg (ints .u8 s3), .agg (ints .u8 kr)] (by simp only [List.map_toArray, List.map_cons, List.map_nil]; rfl) (.agg (ints .u8 s4)) P4.out (hK _ ?_)
        simp only [Act.put, List.setIfInBounds_toArray, List.set_cons_zero, List.set_cons_succ]
        clear hK K
        refine wpQuiet_nil ?_
        intro f w3 B3
        refine wpAny_ready (rs := [11]) (by kernel_rfl) (by simp) ?_
        refine AllReady.cons rfl (fun K hK => ?_) AllReady.nil
        refine step_storeG _ rfl none rfl (.tmp 6) (.tmp 34) 71 rfl .u8 ss s4 g6 rfl rfl (LS.out _ B3) 16 i_st LL.out EL.out fun w4 A4 B4 => hK _ _ ?_
        simp only [Act.put, List.setIfInBounds_toArray, List.set_cons_zero, List.set_cons_succ]
        have HA4 : Hid (Ar w4 g6 0 .u8 (enc key xs (r + 1 - 1))) := by show Ar _ _ _ _ _; rw [HN.out]; exact A4
        have HB4 : Hid (Below w.heap.size w w4) := (HB.out.trans (B3.mono HB.out.size)).trans (B4.mono hg6)
        clear A4 B4 B3
        refine wpAny_done (by kernel_rfl) ?_ _
        go_wp2
        go_roundw
        case rel => exact ⟨r + 1, by omega, by omega, by go_num, HA4.out, HB4.out⟩
        case measure => simp [intOf]; omega
      · have hr14 : r = 14 := by omega
        subst hr14
        have P4 : Hid (∀ w', Below wr.heap.size wr w' → Calls Tryd.prog 50 #[.agg (ints .u8 (shl16 (looked ptab (enc key xs (14 - 1))) 1)), .agg (ints .u8 (rk key 14))] w' fun e w'' => e = .returned (.agg (ints .u8 zs)) ∧ Below wr.heap.size wr w'') := in_class fun w0 => by
          rw [HEL.out]
          exact xored_any _ _ w0 sb3 (HKB.out 14)
        have LK : Hid (∀ w', Below wr.heap.size wr w' → Ar w' kb 225 .u8 (rk key 14)) := fun w' h => HKR.out w' ((HK.out.below hB hkw).below h hkk) 14 (by omega)
        have KL : Hid ((rk key 14).length = 16) := (HKB.out 14).1
        have EB : Blk zs := ZB.out
        have HLi : Hid (∀ w0, Calls Tryd.prog 56 #[.agg (ints .u8 zs)] w0 fun e w' => ∃ v, e = .returned v ∧ ∃ g, v = .slice (some ⟨g, 0, none⟩) 16 16 ∧ Ar w' g 0 .u8 zs ∧ w0.heap.size ≤ g ∧ Below w0.heap.size w0 w') := fun w0 => (list_any _ w0 EB.1 EB.2).mono fun _ _ ⟨g, he, h⟩ => ⟨_, he, g, rfl, h⟩
        clear sb1 sb2 sb3 EB hA
        generalize shl16 (looked ptab (enc key xs (14 - 1))) 1 = s2 at *
        generalize looked ptab (enc key xs (14 - 1)) = s1 at *
        generalize enc key xs (14 - 1) = ss at *
        generalize rk key 14 = kr at *
        go_wp2
        refine wp_region_any (by kernel_rfl) ?_
        refine wpAny_quiet_then (C := fun w' => Below wr.heap.size wr w') 0 9 3 _ (by kernel_rfl) rfl (by kernel_rfl) (by kernel_rfl) (Below.refl _ _).drew ?_
        simp only [List.take_succ_cons, List.take_zero, List.drop_zero]
        refine wpQuiet_step (fun K hK => ?_)
        refine q_loadA (by rfl) (some 35) rfl (.tmp 6) 71 rfl .u8 ss g6 0 rfl LS.out 4 16 69 Tryd.underlying71 i_st LL.out (hK _ ?_)
        simp only [Act.put, List.setIfInBounds_toArray, List.set_cons_zero, List.set_cons_succ]
        clear hK K
        refine wpQuiet_step (fun K hK => ?_)
        refine q_call (by rfl) (some 36) rfl 51 #[.tmp 35, .func 52] #[71, 51] rfl (fun q w' => by rfl) #[.agg (ints .u8 ss), .func (.func 52) #[] #[]] (by simp only [List.map_toArray, List.map_cons, List.map_nil]; rfl) (.agg (ints .u8 s1)) P1.out (hK _ ?_)
        simp only [Act.put, List.setIfInBounds_toArray, List.set_cons_zero, List.set_cons_succ]
        clear hK K
        refine wpQuiet_step (fun K hK => ?_)
        refine q_call (by rfl) (some 37) rfl 53 #[.tmp 36, .const (.int .i64 1)] #[71, 3] rfl (fun q w' => by rfl) #[.agg (ints .u8 s1), .int .i64 1] (by simp only [List.map_toArray, List.map_cons, List.map_nil]; rfl) (.agg (ints .u8 s2)) P2.out (hK _ ?_)
        simp only [Act.put, List.setIfInBounds_toArray, List.set_cons_zero, List.set_cons_succ]
        clear hK K
        refine wpQuiet_step (fun K hK => ?_)
        refine q_val (by rfl) (some 38) rfl (.pointer (some ⟨kb, 0, none⟩)) (fun w' _ => by rfl) (hK _ ?_)
        simp only [Act.put, List.setIfInBounds_toArray, List.set_cons_zero, List.set_cons_succ]
        clear hK K
        refine wpQuiet_step (fun K hK => ?_)
        refine q_val (by rfl) (some 39) rfl (.pointer (some ⟨kb, 0, none⟩)) (fun w' _ => by rfl) (hK _ ?_)
        simp only [Act.put, List.setIfInBounds_toArray, List.set_cons_zero, List.set_cons_succ]
        clear hK K
        refine wpQuiet_step (fun K hK => ?_)
        refine q_val (by rfl) (some 40) rfl (.pointer (some ⟨kb, 1, none⟩)) (fun w' _ => by rfl) (hK _ ?_)
        simp only [Act.put, List.setIfInBounds_toArray, List.set_cons_zero, List.set_cons_succ]
        clear hK K
        refine wpQuiet_step (fun K hK => ?_)
        refine q_idxA (by rfl) (some 41) rfl (.tmp 40) (.const (.int .i64 14)) 72 rfl kb 1 225 15 16 14 ua_sts la_sts ia_sts rfl rfl (by omega) (by omega) (hK _ ?_)
        simp only [Act.put, List.setIfInBounds_toArray, List.set_cons_zero, List.set_cons_succ]
        clear hK K
        refine wpQuiet_step (fun K hK => ?_)
        refine q_loadA (by rfl) (some 42) rfl (.tmp 41) 71 rfl .u8 kr kb 225 rfl LK.out 4 16 69 Tryd.underlying71 i_st KL.out (hK _ ?_)
        simp only [Act.put, List.setIfInBounds_toArray, List.set_cons_zero, List.set_cons_succ]
        clear hK K
        refine wpQuiet_step (fun K hK => ?_)
        refine q_call (by rfl) (some 43) rfl 50 #[.tmp 37, .tmp 42] #[71, 71] rfl (fun q w' => by rfl) #[.agg (ints .u8 s2), .agg (ints .u8 kr)] (by simp only [List.map_toArray, List.map_cons, List.map_nil]; rfl) (.agg (ints .u8 zs)) P4.out (hK _ ?_)
        simp only [Act.put, List.setIfInBounds_toArray, List.set_cons_zero, List.set_cons_succ]
        clear hK K
        refine wpQuiet_nil ?_
        intro f w3 B3
        refine wpAny_ready (rs := [9]) (by kernel_rfl) (by simp) ?_
        refine AllReady.cons rfl (fun K hK => ?_) AllReady.nil
        refine step_callG _ rfl (some 44) rfl 56 #[.tmp 43] #[71] rfl (fun q w' => by rfl) #[.agg (ints .u8 zs)] (by simp only [List.map_toArray, List.map_cons, List.map_nil]; rfl) _ (HLi.out _) fun v4 w4 h4 => hK _ _ ?_
        obtain ⟨g, rfl, A4, L4, B4⟩ := h4
        simp only [Act.put, List.setIfInBounds_toArray, List.set_cons_zero, List.set_cons_succ]
        refine wpAny_ready (rs := [10]) (by kernel_rfl) (by simp) ?_
        refine AllReady.cons rfl (fun K hK => ?_) AllReady.nil
        refine step_movG _ rfl (some 4) rfl (.tmp 44) rfl _ rfl (hK _ _ ?_)
        simp only [Act.put, List.setIfInBounds_toArray, List.set_cons_zero, List.set_cons_succ]
        refine wpAny_ready (rs := [11]) (by kernel_rfl) (by simp) ?_
        refine AllReady.cons rfl (fun K hK => ?_) AllReady.nil
        refine step_movG _ rfl (some 5) rfl _ rfl _ rfl (hK _ _ ?_)
        simp only [Act.put, List.setIfInBounds_toArray, List.set_cons_zero, List.set_cons_succ]
        refine wpAny_done (by kernel_rfl) ?_ _
        have BT := (hB.trans (B3.mono hB.size)).trans (B4.mono (Nat.le_trans hB.size B3.size))
        have LT : w.heap.size ≤ g := Nat.le_trans (Nat.le_trans hB.size B3.size) L4
        go_wp2
        go_ret2
        exact ⟨g, rfl, A4, LT, BT⟩
end Go.Proofs.YtifepmdhbhdjpaaDoor

/- What aes' Decrypt answers. No claim of its own. -/
namespace Go.Proofs.YtifepmdhbhdjpaaDoor
open Go.RowKit
set_option maxRecDepth 20000
end Go.Proofs.YtifepmdhbhdjpaaDoor

/- What aes' Encrypt and Decrypt answer where they take not. No claim of its own. -/
namespace Go.Proofs.YtifepmdhbhdjpaaDoor
open Go.RowKit
set_option maxRecDepth 20000

theorem repl_all (n : Nat) : AllB (List.replicate n (0 : Int)) := allB_mem fun x hx => by
  have := List.eq_of_mem_replicate hx
  omega
end Go.Proofs.YtifepmdhbhdjpaaDoor

/- What wrap's small functions and its two steps answer. No claim of its own. -/
namespace Go.Proofs.YtifepmdhbhdjpaaDoor.wr
open Go.RowKit
set_option maxRecDepth 20000

set_option maxHeartbeats 1000000 in
theorem cut_any (b off n cap i : Nat) (I : Int) (hI : I = (i : Int)) (w : World) (hi : 8 * i + 8 ≤ n) (hn : n ≤ cap) (hs : i ≤ 1000) :
    Calls Tryd.prog 44 #[.slice (some ⟨b, off, none⟩) n cap, .int .i64 I] w fun e w' => e = .returned (.slice (some ⟨b, off + 8 * i, none⟩) 8 8) ∧ w' = w := by
  subst hI
  have k1 : IntKind.i64.wrap (8 * (i : Int)) = 8 * (i : Int) := by rw [IntKind.wrap_i64]; omega
  have k2 : IntKind.i64.wrap (8 * (i : Int) + 8) = 8 * (i : Int) + 8 := by rw [IntKind.wrap_i64]; omega
  have k3 : (0 : Int) ≤ 8 * (i : Int) := by omega
  have k4 : 8 * (i : Int) + 8 ≤ (cap : Int) := by omega
  have k5 : 8 * (i : Int) ≤ 8 * (i : Int) + 8 := by omega
  go_enter Tryd.func44, Tryd.ntmps44
  go_wp2
  go_ret
  refine ⟨?_, rfl⟩
  show Ending.returned (Value.slice (some ⟨b, off + 8 * i, none⟩) (8 * i + 8 - 8 * i) (8 * i + 8 - 8 * i)) = _
  rw [show 8 * i + 8 - 8 * i = 8 by omega]

set_option maxHeartbeats 1000000 in
theorem parts_any (ao : Option Addr) (L n cap : Nat) (w : World) (hL : L = 8 * n + 8) (hn : n ≤ 1000) :
    Calls Tryd.prog 41 #[.slice ao L cap] w fun e w' => e = .returned (.int .i64 (n : Int)) ∧ w' = w := by
  have k1 : (L : Int).tdiv 8 = (n : Int) + 1 := by rw [Int.tdiv_eq_ediv_of_nonneg (by omega)]; omega
  have k2 : IntKind.i64.wrap ((n : Int) + 1) = (n : Int) + 1 := by rw [IntKind.wrap_i64]; omega
  have k3 : IntKind.i64.wrap ((n : Int) + 1 - 1) = (n : Int) := by rw [IntKind.wrap_i64]; omega
  clear hL
  go_enter Tryd.func41, Tryd.ntmps41
  go_wp2
  go_ret
  exact ⟨by first | rfl | exact ret_int (by omega), rfl⟩

set_option maxHeartbeats 1000000 in
theorem last_any (ao : Option Addr) (L n cap : Nat) (w : World) (hL : L = 8 * n + 8) (hn : n ≤ 1000) :
    Calls Tryd.prog 36 #[.slice ao L cap] w fun e w' => e = .returned (.int .i64 ((6 * n : Nat) : Int)) ∧ w' = w := by
  have H : Hid (Calls Tryd.prog 41 #[.slice ao L cap] w fun e w' => e = .returned (.int .i64 (n : Int)) ∧ w' = w) := parts_any ao L n cap w hL hn
  have k2 : IntKind.i64.wrap (6 * (n : Int)) = 6 * (n : Int) := by rw [IntKind.wrap_i64]; omega
  clear hL
  go_enter Tryd.func36, Tryd.ntmps36
  go_wp2_with (go_at_call 41; refine (H.out).mono ?_; rintro e wx ⟨rfl, hw⟩; obtain rfl := hw.symm)
  go_ret
  exact ⟨by first | rfl | exact ret_int (by omega), rfl⟩

set_option maxHeartbeats 1000000 in
theorem partOf_any (ao : Option Addr) (L n cap t i : Nat) (w : World) (hL : L = 8 * n + 8) (hn : n ≤ 1000) (hp : 0 < n) (ht : 1 ≤ t) (ht' : t ≤ 1000000) (hi : i = (t - 1) % n + 1) :
    Calls Tryd.prog 42 #[.slice ao L cap, .int .i64 (t : Int)] w fun e w' => e = .returned (.int .i64 (i : Int)) ∧ w' = w := by
  have H : Hid (∀ w, Calls Tryd.prog 41 #[.slice ao L cap] w fun e w' => e = .returned (.int .i64 (n : Int)) ∧ w' = w) := fun w => parts_any ao L n cap w hL hn
  obtain ⟨r, hr⟩ : ∃ r, r = (t - 1) % n := ⟨_, rfl⟩
  have hrn : r < n := by rw [hr]; exact Nat.mod_lt _ hp
  have k1 : IntKind.i64.wrap ((t : Int) - 1) = (t : Int) - 1 := by rw [IntKind.wrap_i64]; omega
  have k3 : ((t : Int) - 1).tmod (n : Int) = (r : Int) := by
    rw [Int.tmod_eq_emod_of_nonneg (by omega), show (t : Int) - 1 = ((t - 1 : Nat) : Int) by omega, hr]; rfl
  have k4 : IntKind.i64.wrap (r : Int) = (r : Int) := by rw [IntKind.wrap_i64]; omega
  have k5 : IntKind.i64.wrap ((r : Int) + 1) = (r : Int) + 1 := by rw [IntKind.wrap_i64]; omega
  have k6 : ¬ ((n : Int) = 0) := by omega
  have HI : Hid (i = r + 1) := by rw [hr]; exact hi
  clear hL hi hr
  go_enter Tryd.func42, Tryd.ntmps42
  go_wp2_with (go_at_call 41; refine (H.out _).mono ?_; rintro e wx ⟨rfl, hw⟩; obtain rfl := hw.symm)
  go_ret
  exact ⟨by have := HI.out; first | rfl | exact ret_int (by omega), rfl⟩

theorem clamp8 : clamp 8 8 = 8 := by unfold clamp; omega

set_option maxHeartbeats 1000000 in
theorem num8_any (v : Value) (xs : List Int) (t : Nat) (w : World) (hv : Byt w v xs) (hl : xs.length = 8) (ht : t ≤ 1000000) :
    Calls Tryd.prog 45 #[v, .int .i64 (t : Int)] w fun e w' => ∃ v', e = .returned (.tuple #[v', .int .i64 0]) ∧ Own w.heap.size w' v' (xorl xs (b8 t)) ∧ Below w.heap.size w w' := by
  have HB : Hid (∀ w, Calls Tryd.prog 18 #[.int .u64 (t : Int), .int .i64 8] w fun e w' => ∃ v, e = .returned v ∧ Byt w' v (b8 t) ∧ Below w.heap.size w w') := fun w => by
    have := big_any (t : Int) 8 w (by omega)
    rw [clamp8] at this
    exact this
  have HX : Hid (∀ w' u, Byt w' v xs → Byt w' u (b8 t) → Calls Tryd.prog 57 #[v, u] w' fun e w'' => ∃ v', e = .returned (.tuple #[v', .int .i64 0]) ∧ Own w'.heap.size w'' v' (xorl xs (b8 t)) ∧ Below w'.heap.size w' w'') := fun w' u h1 h2 => xor_own v u xs (b8 t) w' h1 h2 (by rw [hl, b8_len]) (by omega)
  have HV : Hid (Byt w v xs) := hv
  have k1 : IntKind.u64.wrap (t : Int) = (t : Int) := by rw [IntKind.wrap_u64]; omega
  clear hv hl
  generalize xorl xs (b8 t) = zs at *
  generalize b8 t = ts at *
  go_enter Tryd.func45, Tryd.ntmps45
  go_wp2_with (first
    | (have q1 := s1; go_at_call 57; refine (HX.out _ _ (HV.out.below B1) Y1.out).mono ?_; rintro e w2 ⟨v2, rfl, o2, B2⟩; have O2 : Hid (Own w1.heap.size w2 v2 zs) := o2; clear o2)
    | (go_at_call 18; refine (HB.out _).mono ?_; rintro e w1 ⟨v1, rfl, y1, B1⟩; have s1 := B1.size; have Y1 : Hid (Byt w1 v1 ts) := y1; clear y1))
  go_ret2
  exact ⟨_, rfl, own_mono O2.out s1, B1.trans (B2.mono s1)⟩

/-! ### the two steps -/
theorem pt_zero (s : List Int) : pt s 0 = hd s := by simp [pt, hd]
theorem ar_part {w : World} {g : Nat} {s : List Int} (h : Ar w g 0 .u8 s) (ha : AllB s) (p : Nat) (hp : p + 8 ≤ s.length) : Byt w (.slice (some ⟨g, p, none⟩) 8 8) (pt s p) := by
  have hl := pt_len s p hp
  have := h.subG p (pt s p) (by omega) (fun t ht => gb_cut s p (p + 8) t (by omega))
  rw [Nat.zero_add] at this
  exact this.bytG (pt_all s p ha) 8 8 hl (Nat.le_refl _) (by omega)
theorem ar_hd {w : World} {g : Nat} {s : List Int} (h : Ar w g 0 .u8 s) (ha : AllB s) (hp : 8 ≤ s.length) : Byt w (.slice (some ⟨g, 0, none⟩) 8 8) (hd s) := by
  have := ar_part h ha 0 (by omega)
  rwa [pt_zero] at this
theorem drop8_pt (s : List Int) (h : s.length = 16) : s.drop 8 = pt s 8 := by
  unfold pt
  rw [List.take_of_length_le (by omega)]
theorem laid_two (s a r : List Int) (p : Nat) (ha : a.length = 8) (hr : r.length = 8) (h8 : 8 ≤ p) : laid (laid s 0 a) p r = put s p a r := by
  have e0 : laid s 0 a = a ++ s.drop 8 := by
    unfold laid
    rw [List.take_zero, List.nil_append, Nat.zero_add, ha]
  rw [e0]
  unfold laid put
  rw [hr, List.take_append, List.take_of_length_le (by omega), List.drop_append, List.drop_eq_nil_of_le (show a.length ≤ p + 8 by omega), List.nil_append, List.drop_drop, ha, List.drop_take, show 8 + (p + 8 - 8) = p + 8 by omega]
theorem grown_trans {a b c : World} {row : Option Nat} (h : a.grownBy b row) (k : b.grownBy c row) : a.grownBy c row :=
  ⟨k.os.trans h.os, k.tape.trans h.tape, k.output.trans h.output, Nat.le_trans h.size k.size, fun j hj hr => (k.block j (Nat.lt_of_lt_of_le hj h.size) hr).trans (h.block j hj hr)⟩
theorem below_grown {w w' : World} (h : Below w.heap.size w w') (g : Nat) : w.grownBy w' (some g) := ⟨h.os, h.tape, h.output, h.size, fun j hj _ => h.block j hj⟩

set_option linter.unusedSimpArgs false in
set_option maxRecDepth 20000 in
set_option maxHeartbeats 4000000 in
theorem one_any (kb g n t cap : Nat) (key s : List Int) (w : World) (hk : KeyA w kb key) (hkl : key.length = 32) (hka : AllB key) (hA : Ar w g 0 .u8 s) (hs : Fit (8 * n + 8) s) (hn : 0 < n) (hn' : n ≤ 32) (ht : 1 ≤ t) (ht' : t ≤ 192) (hc : 8 * n + 8 ≤ cap) :
    Calls Tryd.prog 37 #[.pointer (some ⟨kb, 0, none⟩), .slice (some ⟨g, 0, none⟩) (8 * n + 8) cap, .int .i64 (t : Int)] w fun e w' => e = .returned (.int .i64 0) ∧ Ar w' g 0 .u8 (fw key t (ix n t) s) ∧ w.grownBy w' (some g) := by
  obtain ⟨i, hi⟩ : ∃ i, i = (t - 1) % n + 1 := ⟨_, rfl⟩
  obtain ⟨p, hp⟩ : ∃ p, p = 8 * i := ⟨_, rfl⟩
  have hix : ix n t = p := by rw [hp, hi]; rfl
  have hbd := ix_bd n t hn
  rw [hix] at hbd ⊢
  have hsl := hs.1
  have hin := in_blk s (8 * n + 8) p hs hbd.1 hbd.2
  have hX := encr_blk key hkl hka _ hin
  have hh := half _ hX
  have hxb := xb _ t hh.1.1 hh.1.2
  have P0 : Hid (∀ w, Calls Tryd.prog 42 #[.slice (some ⟨g, 0, none⟩) (8 * n + 8) cap, .int .i64 (t : Int)] w fun e w' => e = .returned (.int .i64 (i : Int)) ∧ w' = w) := fun w => partOf_any _ _ n cap t i w rfl (by omega) hn ht (by omega) hi
  have C0 : Hid (∀ w, Calls Tryd.prog 44 #[.slice (some ⟨g, 0, none⟩) (8 * n + 8) cap, .int .i64 0] w fun e w' => e = .returned (.slice (some ⟨g, 0, none⟩) 8 8) ∧ w' = w) := fun w => cut_any g 0 _ cap 0 0 rfl w (by omega) hc (by omega)
  have C1 : Hid (∀ w, Calls Tryd.prog 44 #[.slice (some ⟨g, 0, none⟩) (8 * n + 8) cap, .int .i64 (i : Int)] w fun e w' => e = .returned (.slice (some ⟨g, p, none⟩) 8 8) ∧ w' = w) := fun w => by
    have := cut_any g 0 (8 * n + 8) cap i (i : Int) rfl w (by omega) hc (by omega)
    rwa [Nat.zero_add, ← hp] at this
  have D0 : Hid (∀ g2 w, Calls Tryd.prog 44 #[.slice (some ⟨g2, 0, none⟩) 16 16, .int .i64 0] w fun e w' => e = .returned (.slice (some ⟨g2, 0, none⟩) 8 8) ∧ w' = w) := fun g2 w => cut_any g2 0 _ 16 0 0 rfl w (by omega) (by omega) (by omega)
  have D1 : Hid (∀ g2 w, Calls Tryd.prog 44 #[.slice (some ⟨g2, 0, none⟩) 16 16, .int .i64 1] w fun e w' => e = .returned (.slice (some ⟨g2, 8, none⟩) 8 8) ∧ w' = w) := fun g2 w => cut_any g2 0 _ 16 1 1 rfl w (by omega) (by omega) (by omega)
  have E0 : Hid (∀ w' v, KeyA w' kb key → Byt w' v (hd s ++ pt s p) → Calls Tryd.prog 43 #[.pointer (some ⟨kb, 0, none⟩), v] w' fun e w'' => ∃ g2, e = .returned (.tuple #[.slice (some ⟨g2, 0, none⟩) 16 16, .int .i64 0]) ∧ Ar w'' g2 0 .u8 (encr key (hd s ++ pt s p)) ∧ w'.heap.size ≤ g2 ∧ Below w'.heap.size w' w'') := fun w' v h1 h2 => encrypt_any v _ key kb w' h1 hkl hka h2 hin.1
  have N0 : Hid (∀ w' v, Byt w' v ((encr key (hd s ++ pt s p)).take 8) → Calls Tryd.prog 45 #[v, .int .i64 (t : Int)] w' fun e w'' => ∃ v', e = .returned (.tuple #[v', .int .i64 0]) ∧ Own w'.heap.size w'' v' (xorl ((encr key (hd s ++ pt s p)).take 8) (b8 t)) ∧ Below w'.heap.size w' w'') := fun w' v h => num8_any v _ t w' h hh.1.1 (by omega)
  have HF : Hid (fw key t p s = laid (laid s 0 (xorl ((encr key (hd s ++ pt s p)).take 8) (b8 t))) p ((encr key (hd s ++ pt s p)).drop 8)) := (laid_two s _ _ p hxb.1 hh.2.1 hbd.1).symm
  have Y0 : Hid (Byt w (.slice (some ⟨g, 0, none⟩) 8 8) (hd s)) := ar_hd hA hs.2 (by omega)
  have Y1 : Hid (Byt w (.slice (some ⟨g, p, none⟩) 8 8) (pt s p)) := ar_part hA hs.2 p (by omega)
  have L0 : Hid ((hd s).length = 8) := hd_len s (by omega)
  have L1 : Hid ((pt s p).length = 8) := pt_len s p (by omega)
  have LI : Hid (AllB (hd s ++ pt s p)) := hin.2
  have HK : Hid (KeyA w kb key) := hk
  have HA : Hid (Ar w g 0 .u8 s) := hA
  have lk : kb < w.heap.size := hk.lt
  have lg : g < w.heap.size := hA.lt (by omega)
  have HSL : Hid (s.length = 8 * n + 8 ∧ 8 ≤ p ∧ p + 8 ≤ 8 * n + 8) := ⟨hsl, hbd⟩
  clear hk hA hs hsl hix hbd hin hi hp hkl hka hn hn' ht ht' hc
  have LX : Hid ((encr key (hd s ++ pt s p)).length = 16) := hX.1
  have LA : Hid (AllB (encr key (hd s ++ pt s p))) := hX.2
  have LT : Hid (((encr key (hd s ++ pt s p)).drop 8).length = 8) := hh.2.1
  have LR : Hid ((xorl ((encr key (hd s ++ pt s p)).take 8) (b8 t)).length = 8 ∧ AllB (xorl ((encr key (hd s ++ pt s p)).take 8) (b8 t))) := hxb
  clear hX hh hxb
  generalize fw key t p s = Z at *
  generalize xorl ((encr key (hd s ++ pt s p)).take 8) (b8 t) = A' at *
  have TK : Hid (hd (encr key (hd s ++ pt s p)) = (encr key (hd s ++ pt s p)).take 8) := rfl
  have TD : Hid ((encr key (hd s ++ pt s p)).drop 8 = pt (encr key (hd s ++ pt s p)) 8) := drop8_pt _ LX.out
  generalize (encr key (hd s ++ pt s p)).take 8 = X0 at *
  generalize (encr key (hd s ++ pt s p)).drop 8 = X1 at *
  generalize encr key (hd s ++ pt s p) = X at *
  generalize hd s = S0 at *
  generalize pt s p = S1 at *
  generalize 8 * n + 8 = L at *
  have t0 : True := trivial
  have t1 : True := trivial
  have t2 : True := trivial
  have t3 : True := trivial
  have t4 : True := trivial
  have t5 : True := trivial
  have t6 : True := trivial
  have t7 : True := trivial
  have t8 : True := trivial
  have t9 : True := trivial
  have t10 : True := trivial
  have t11 : True := trivial
  go_enter Tryd.func37, Tryd.ntmps37
  go_wp2_with (first
    | (have q := t0; go_at_call 42; refine (P0.out _).mono ?_; rintro e wx ⟨rfl, hw⟩; obtain rfl := hw.symm; clear t0 q)
    | (have q := t1; go_at_call 44; refine (C0.out _).mono ?_; rintro e wx ⟨rfl, hw⟩; obtain rfl := hw.symm; clear t1 q)
    | (have q := t2; go_at_call 44; refine (C1.out _).mono ?_; rintro e wx ⟨rfl, hw⟩; obtain rfl := hw.symm; clear t2 q)
    | (at_builtin; have q := t3; refine full_law _ rfl (.tmp 17) (.tmp 20) rfl (.slice (some ⟨g, p, none⟩) 8 8) S0 S1 ⟨g, 0, none⟩ 8 rfl rfl Y0.out Y1.out (by rw [L1.out]; omega) (by rw [L0.out]; omega) (by rw [L0.out]; omega) (by rw [L1.out]; omega) ?_; intro v1 w1 o1 B1; have O1 : Hid (Byt w1 v1 (S0 ++ S1)) := o1.byt LI.out; have s1 := B1.size; clear t3 q o1)
    | (have q := t4; go_at_call 43; refine (E0.out _ _ (HK.out.below B1 lk) O1.out).mono ?_; rintro e w2 ⟨g2, rfl, a2, L2, B2⟩; have A2 : Hid (Ar w2 g2 0 .u8 X) := a2; have B02 : Hid (Below w.heap.size w w2) := B1.trans (B2.mono s1); have s2 := B2.size; have l2 : g2 < w2.heap.size := a2.lt (by rw [LX.out]; omega); clear t4 q a2)
    | (have q := t5; go_at_call 44; refine (D0.out _ _).mono ?_; rintro e wx ⟨rfl, hw⟩; obtain rfl := hw.symm; clear t5 q)
    | (have q := t6; go_at_call 45; refine (N0.out _ _ (by rw [← TK.out]; exact ar_hd A2.out LA.out (by rw [LX.out]; omega))).mono ?_; rintro e w3 ⟨v3, rfl, o3, B3⟩; have O3 : Hid (Byt w3 v3 A') := o3.byt LR.out.2; have B03 : Hid (Below w.heap.size w w3) := B02.out.trans (B3.mono (by omega)); have A3 : Hid (Ar w3 g2 0 .u8 X) := A2.out.below B3 l2; have H3 : Hid (Ar w3 g 0 .u8 s) := HA.out.below B03.out lg; have s3 := B3.size; clear t6 q o3)
    | (have q := t7; go_at_call 44; refine (C0.out _).mono ?_; rintro e wx ⟨rfl, hw⟩; obtain rfl := hw.symm; clear t7 q)
    | (have q := t8; refine copy_lawW _ rfl (.tmp 39) (.tmp 40) rfl g 0 8 8 v3 s A' rfl rfl O3.out H3.out LR.out.1 (by have := HSL.out; omega) ?_; intro w4 a4 G4; have H4 : Hid (Ar w4 g 0 .u8 (laid s 0 A')) := a4; have A4 : Hid (Ar w4 g2 0 .u8 X) := A3.out.heap (G4.block g2 (by omega) (by intro h; injection h with h; omega)); have K4 : Hid (w3.grownBy w4 (some g)) := G4; clear t8 q a4 G4)
    | (have q := t9; go_at_call 44; refine (C1.out _).mono ?_; rintro e wx ⟨rfl, hw⟩; obtain rfl := hw.symm; clear t9 q)
    | (have q := t10; go_at_call 44; refine (D1.out _ _).mono ?_; rintro e wx ⟨rfl, hw⟩; obtain rfl := hw.symm; clear t10 q)
    | (have q := t11; refine copy_lawW _ rfl (.tmp 44) (.tmp 46) rfl g p 8 8 (.slice (some ⟨g2, 8, none⟩) 8 8) (laid s 0 A') X1 rfl rfl (by rw [TD.out]; exact ar_part A4.out LA.out 8 (by have := LX.out; omega)) H4.out LT.out (by rw [laid_len s 0 A' (by rw [LR.out.1]; have := HSL.out; omega)]; have := HSL.out; omega) ?_; intro w5 a5 G5; have H5 : Hid (Ar w5 g 0 .u8 (laid (laid s 0 A') p X1)) := a5; have K5 : Hid (w4.grownBy w5 (some g)) := G5; clear t11 q a5 G5))
  go_ret
  exact ⟨rfl, by rw [HF.out]; exact H5.out, grown_trans (grown_trans (below_grown B03.out g) K4.out) K5.out⟩
end Go.Proofs.YtifepmdhbhdjpaaDoor.wr

