/- What aes' mixed and put answer, with Mix and Unmix, Subs and Backs. No claim of its own. -/
import Derived.Test.YtjiddmgnkldmkaaAShf
import Derived.Test.YtjiddmgnkldmkaaSCall
namespace Go.Proofs.Ytjiddmgnkldmkaa
open Go.RowKit

/-- a part of an array is written; the world gets a name -/
theorem store_lawM {ops : Array Oper} {rest : List Oper} {o : Oper} {a : Act} {Q : Exit → Act → World → Prop} (w : World) (hg : o.guard = none) (x y : Operand) (t : TypeId) (hop : o.op = Op.store t x y) (xs ys : List Int) (b p : Nat) (hx : a.eval x = .pointer (some ⟨b, p, none⟩)) (hy : a.eval y = .agg (ints .u8 ys))
    (hA : Ar w b 0 .u8 xs) (n : Nat) (hi : (Try.prog.info? t).map (·.size) = some n) (hn : ys.length = n) (hl : p + n ≤ xs.length)
    (hK : ∀ w', Ar w' b 0 .u8 (laid xs p ys) → Below b w w' → (∀ b' o' k' zs, b' ≠ b → Ar w b' o' k' zs → Ar w' b' o' k' zs) → wpList Try.prog ops Q rest (a.put o.dst undef) w') :
    wpList Try.prog ops Q (o :: rest) a w :=
  store_law w hg x y t hop .u8 ys b p hx hy (by rw [hn]; exact thereG hA p n hl) n hi hn (hK _ (hA.layG p ys (by omega)) (below_cells _ (Nat.le_refl _) _ _ (Below.refl _ _)) (fun b' o' k' zs hb' h => h.apart b p _ (Or.inl hb')))

/-- the first k columns are mixed -/
def prm (xs ms : List Int) (k : Nat) : List Int := (List.range 16).map fun i => if i < 4 * k then gb ms i else gb xs i
theorem prm_len (xs ms : List Int) (k : Nat) : (prm xs ms k).length = 16 := by simp [prm]
theorem gb_prm (xs ms : List Int) (k t : Nat) (h : t < 16) : gb (prm xs ms k) t = if t < 4 * k then gb ms t else gb xs t := range_gb _ _ _ h
theorem prm_zero (xs ms : List Int) (h : xs.length = 16) : prm xs ms 0 = xs := ext_gb (by rw [prm_len, h]) fun t ht => by
  rw [prm_len] at ht
  rw [gb_prm _ _ _ _ ht, if_neg (by omega)]
theorem prm_end (xs ms : List Int) (h : ms.length = 16) : prm xs ms 4 = ms := ext_gb (by rw [prm_len, h]) fun t ht => by
  rw [prm_len] at ht
  rw [gb_prm _ _ _ _ ht, if_pos (by omega)]
theorem prm_lay (xs ms : List Int) (k : Nat) (hk : k < 4) (h : ms.length = 16) : laid (prm xs ms k) (4 * k) (cut4 ms k) = prm xs ms (k + 1) := by
  have hc := cut4_len ms k (by omega)
  refine ext_gb (by rw [laid_len _ _ _ (by rw [prm_len, hc]; omega), prm_len, prm_len]) fun t ht => ?_
  rw [laid_len _ _ _ (by rw [prm_len, hc]; omega), prm_len] at ht
  rw [gb_laid _ _ _ (by rw [prm_len, hc]; omega), gb_prm _ _ _ _ ht, gb_prm _ _ _ _ ht, hc]
  by_cases h1 : t < 4 * k
  · rw [if_pos h1, if_pos h1, if_pos (by omega)]
  · rw [if_neg h1, if_neg h1]
    by_cases h2 : t < 4 * k + 4
    · rw [if_pos h2, if_pos (by omega), cut4_gb _ _ _ (by omega), show 4 * k + (t - 4 * k) = t by omega]
    · rw [if_neg h2, if_neg (by omega)]
theorem cut4_col (xs : List Int) (k : Nat) (h : Blk xs) (hk : k < 4) : cut4 xs k = cI (colOf xs k) := by
  have hc := cut4_len xs k (by rw [h.1]; omega)
  refine ext_gb (by rw [hc, cI_len, (colOf_col xs k h.2).1]) fun t ht => ?_
  rw [hc] at ht
  rw [cut4_gb _ _ _ ht, gb_cI, colOf_gn _ _ _ ht]
  have := h.2 (4 * k + t)
  omega
theorem trn_cut (xs : List Int) (ws : List Nat) (k : Nat) (hk : k < 4) (hw : Col ws) : cI (trn (colOf xs k) ws) = cut4 (mixb xs ws) k := by
  rw [cut4_col _ k (mixb_blk xs ws hw) hk, colOf_mixb xs ws k hk]

set_option linter.unusedSimpArgs false in
set_option maxRecDepth 20000 in
set_option maxHeartbeats 4000000 in
theorem mixed_mix (xs : List Int) (w : World) (hx : Blk xs) :
    Calls Try.prog 59 #[.agg (ints .u8 xs), .func (.func 60) #[] #[]] w fun e w' => e = .returned (.agg (ints .u8 (mixb xs mixW))) ∧ Below w.heap.size w w' := by
  have HX : Hid (Blk xs) := hx
  have HM : Hid (∀ k, k < 4 → ∀ w0, Calls Try.prog 60 #[.agg (ints .u8 (cut4 xs k))] w0 fun e w' => e = .returned (.agg (ints .u8 (cut4 (mixb xs mixW) k))) ∧ Below w0.heap.size w0 w') := fun k hk w0 => by
    have := mix_any (colOf xs k) w0 (colOf_col xs k hx.2)
    rw [trn_cut xs mixW k hk mixW_col, ← cut4_col xs k hx hk] at this
    exact this
  have ML : Hid ((mixb xs mixW).length = 16) := mixb_len xs mixW
  generalize mixb xs mixW = ms at *
  have HZ : Hid (prm xs ms 0 = xs ∧ prm xs ms 4 = ms) := ⟨prm_zero xs ms hx.1, prm_end xs ms ML.out⟩
  clear hx
  go_enter Try.func59, Try.ntmps59
  go_wp2_with (first
    | (refine box_lawF _ rfl (.tmp 0) 50 rfl .u8 xs rfl ?_; intro w1 A1 B1 s1; have HA1 : Hid (Ar w1 w.heap.size 0 .u8 xs) := A1; clear A1)
    | (have q1 := s1; refine new_lawF _ rfl 50 rfl .u8 z16 z_st ?_; intro w2 A2 B2 s2; have HA2 : Hid (Ar w2 w1.heap.size 0 .u8 z16) := A2; clear A2)
    | (have q2 := s2; refine load_lawN _ rfl (.tmp 2) 50 rfl .u8 xs w.heap.size 0 rfl (HA1.out.below B2 s1) 4 16 48 Try.underlying50 i_st HX.out.1 ?_))
  have D1 : Hid (Ar w2 w.heap.size 0 .u8 xs) := HA1.out.below B2 s1
  have BW : Below w.heap.size w w2 := B1.trans (B2.mono (by omega))
  have o1 : w.heap.size < w1.heap.size := s1
  have o2 : w1.heap.size < w2.heap.size := s2
  generalize hg0 : w.heap.size = g0 at *
  generalize w1.heap.size = g1 at *
  go_loopw [8] (fun i wr => ∃ k : Nat, k ≤ 4 ∧ i = .int .i64 k ∧ Ar wr g0 0 .u8 (prm xs ms k) ∧ Ar wr g1 0 .u8 z16 ∧ Below g0 w wr ∧ g1 < wr.heap.size) (fun i _ => 4 - (intOf i).toNat)
  case atStart => exact ⟨0, Nat.zero_le _, rfl, by rw [HZ.out.1]; exact D1.out, HA2.out, BW, o2⟩
  case round =>
    obtain ⟨k, hk, rfl, hA, hR, hB, hS⟩ := hrel
    have k0 : (0 : Int) ≤ (k : Int) := by omega
    have q1 : IntKind.i64.wrap (k : Int) = k := by rw [IntKind.wrap_i64]; omega
    have HA : Hid (Ar wr g0 0 .u8 (prm xs ms k)) := hA
    have HR : Hid (Ar wr g1 0 .u8 z16) := hR
    have HB : Hid (Below g0 w wr) := hB
    clear hA hR hB
    by_cases hlt : k < 4
    · have k1 : (k : Int) < 4 := by omega
      have CL : Hid ((cut4 xs k).length = 4) := cut4_len xs k (by rw [HX.out.1]; omega)
      have CM : Hid ((cut4 ms k).length = 4) := cut4_len ms k (by rw [ML.out]; omega)
      have HMk : Hid (∀ w0, Calls Try.prog 60 #[.agg (ints .u8 (cut4 xs k))] w0 fun e w' => e = .returned (.agg (ints .u8 (cut4 ms k))) ∧ Below w0.heap.size w0 w') := HM.out k hlt
      have FC : Hid (laid (prm xs ms k) (4 * k) (cut4 ms k) = prm xs ms (k + 1)) := prm_lay xs ms k hlt ML.out
      obtain ⟨cs, hcs⟩ : ∃ cs, cs = cut4 xs k := ⟨_, rfl⟩
      have HCS : Hid (cs = cut4 xs k) := hcs
      rw [← hcs] at CL HMk
      generalize cut4 ms k = ds at *
      clear hcs
      go_wp2_with (first
        | (refine idx_st _ rfl (.tmp 7) (.tmp 8) rfl xs _ k rfl rfl rfl hlt cs HCS.out ?_)
        | (refine new_lawF _ rfl 48 rfl .u8 z4 z_arr4 ?_; intro w3 A3 B3 s3; have HA3 : Hid (Ar w3 wr.heap.size 0 .u8 z4) := A3; clear A3)
        | (have q3 := s3; refine store_lawF _ rfl (.tmp 6) (.tmp 11) 48 rfl .u8 z4 cs wr.heap.size rfl rfl HA3.out 4 i_arr4 rfl CL.out ?_; intro w4 A4 B4; have HA4 : Hid (Ar w4 wr.heap.size 0 .u8 cs) := A4; clear A4; have B34 : Below wr.heap.size wr w4 := B3.trans (B4.mono (by omega)))
        | (refine load_law _ rfl (.tmp 6) 48 rfl .u8 cs wr.heap.size 0 rfl HA4.out 4 5 Try.underlying48 i_arr4 CL.out ?_)
        | (go_at_call 60; refine (HMk.out _).mono ?_; rintro e w5 ⟨rfl, B5⟩; have BB : Below wr.heap.size wr w5 := B34.trans (B5.mono B34.size); have HA5 : Hid (Ar w5 g0 0 .u8 (prm xs ms k)) := HA.out.below BB (by omega))
        | (have q5 := HA5; refine store_lawM _ rfl (.tmp 16) (.tmp 15) 48 rfl (prm xs ms k) ds g0 (4 * k) (by rw [Nat.mul_comm 4 k]; rfl) rfl HA5.out 4 i_arr4 CM.out (by rw [prm_len]; omega) ?_; intro w6 A6 B6 C6; rw [FC.out] at A6; have HR6 : Hid (Ar w6 g1 0 .u8 z16) := C6 g1 0 .u8 z16 (by omega) (HR.out.below BB hS); clear C6; have HA6 : Hid (Ar w6 g0 0 .u8 (prm xs ms (k + 1))) := A6; clear A6))
      have BR : Below wr.heap.size wr w5 := BB
      have HB6 : Hid (Below g0 w w6) := (HB.out.trans (BR.mono (by omega))).trans B6
      go_roundw
      case rel => exact ⟨k + 1, by omega, by go_num, HA6.out, HR6.out, HB6.out, HR6.out.lt (by rw [z16_len]; omega)⟩
      case measure => simp [intOf]; omega
    · have hk4 : k = 4 := by omega
      subst hk4
      have HA4 : Hid (Ar wr g0 0 .u8 ms) := by have := HA.out; rw [HZ.out.2] at this; exact this
      clear HA
      go_wp2_with (first
        | (refine load_lawN _ rfl (.tmp 2) 50 rfl .u8 ms g0 0 rfl HA4.out 4 16 48 Try.underlying50 i_st ML.out ?_)
        | (refine store_lawF _ rfl (.tmp 4) (.tmp 18) 50 rfl .u8 z16 ms g1 rfl rfl HR.out 16 i_st z16_len ML.out ?_; intro w7 A7 B7))
      refine bodyPost_ret (v := .agg (ints .u8 ms)) (results_arN rfl _ _ g1 0 .u8 ms rfl A7 4 16 48 Try.underlying50 i_st ML.out) rfl ⟨rfl, ?_⟩
      rw [hg0]
      exact HB.out.trans (B7.mono (by omega))

set_option linter.unusedSimpArgs false in
set_option maxRecDepth 20000 in
set_option maxHeartbeats 4000000 in
theorem mixed_unmix (xs : List Int) (w : World) (hx : Blk xs) :
    Calls Try.prog 59 #[.agg (ints .u8 xs), .func (.func 69) #[] #[]] w fun e w' => e = .returned (.agg (ints .u8 (mixb xs unmW))) ∧ Below w.heap.size w w' := by
  have HX : Hid (Blk xs) := hx
  have HM : Hid (∀ k, k < 4 → ∀ w0, Calls Try.prog 69 #[.agg (ints .u8 (cut4 xs k))] w0 fun e w' => e = .returned (.agg (ints .u8 (cut4 (mixb xs unmW) k))) ∧ Below w0.heap.size w0 w') := fun k hk w0 => by
    have := unmix_any (colOf xs k) w0 (colOf_col xs k hx.2)
    rw [trn_cut xs unmW k hk unmW_col, ← cut4_col xs k hx hk] at this
    exact this
  have ML : Hid ((mixb xs unmW).length = 16) := mixb_len xs unmW
  generalize mixb xs unmW = ms at *
  have HZ : Hid (prm xs ms 0 = xs ∧ prm xs ms 4 = ms) := ⟨prm_zero xs ms hx.1, prm_end xs ms ML.out⟩
  clear hx
  go_enter Try.func59, Try.ntmps59
  go_wp2_with (first
    | (refine box_lawF _ rfl (.tmp 0) 50 rfl .u8 xs rfl ?_; intro w1 A1 B1 s1; have HA1 : Hid (Ar w1 w.heap.size 0 .u8 xs) := A1; clear A1)
    | (have q1 := s1; refine new_lawF _ rfl 50 rfl .u8 z16 z_st ?_; intro w2 A2 B2 s2; have HA2 : Hid (Ar w2 w1.heap.size 0 .u8 z16) := A2; clear A2)
    | (have q2 := s2; refine load_lawN _ rfl (.tmp 2) 50 rfl .u8 xs w.heap.size 0 rfl (HA1.out.below B2 s1) 4 16 48 Try.underlying50 i_st HX.out.1 ?_))
  have D1 : Hid (Ar w2 w.heap.size 0 .u8 xs) := HA1.out.below B2 s1
  have BW : Below w.heap.size w w2 := B1.trans (B2.mono (by omega))
  have o1 : w.heap.size < w1.heap.size := s1
  have o2 : w1.heap.size < w2.heap.size := s2
  generalize hg0 : w.heap.size = g0 at *
  generalize w1.heap.size = g1 at *
  go_loopw [8] (fun i wr => ∃ k : Nat, k ≤ 4 ∧ i = .int .i64 k ∧ Ar wr g0 0 .u8 (prm xs ms k) ∧ Ar wr g1 0 .u8 z16 ∧ Below g0 w wr ∧ g1 < wr.heap.size) (fun i _ => 4 - (intOf i).toNat)
  case atStart => exact ⟨0, Nat.zero_le _, rfl, by rw [HZ.out.1]; exact D1.out, HA2.out, BW, o2⟩
  case round =>
    obtain ⟨k, hk, rfl, hA, hR, hB, hS⟩ := hrel
    have k0 : (0 : Int) ≤ (k : Int) := by omega
    have q1 : IntKind.i64.wrap (k : Int) = k := by rw [IntKind.wrap_i64]; omega
    have HA : Hid (Ar wr g0 0 .u8 (prm xs ms k)) := hA
    have HR : Hid (Ar wr g1 0 .u8 z16) := hR
    have HB : Hid (Below g0 w wr) := hB
    clear hA hR hB
    by_cases hlt : k < 4
    · have k1 : (k : Int) < 4 := by omega
      have CL : Hid ((cut4 xs k).length = 4) := cut4_len xs k (by rw [HX.out.1]; omega)
      have CM : Hid ((cut4 ms k).length = 4) := cut4_len ms k (by rw [ML.out]; omega)
      have HMk : Hid (∀ w0, Calls Try.prog 69 #[.agg (ints .u8 (cut4 xs k))] w0 fun e w' => e = .returned (.agg (ints .u8 (cut4 ms k))) ∧ Below w0.heap.size w0 w') := HM.out k hlt
      have FC : Hid (laid (prm xs ms k) (4 * k) (cut4 ms k) = prm xs ms (k + 1)) := prm_lay xs ms k hlt ML.out
      obtain ⟨cs, hcs⟩ : ∃ cs, cs = cut4 xs k := ⟨_, rfl⟩
      have HCS : Hid (cs = cut4 xs k) := hcs
      rw [← hcs] at CL HMk
      generalize cut4 ms k = ds at *
      clear hcs
      go_wp2_with (first
        | (refine idx_st _ rfl (.tmp 7) (.tmp 8) rfl xs _ k rfl rfl rfl hlt cs HCS.out ?_)
        | (refine new_lawF _ rfl 48 rfl .u8 z4 z_arr4 ?_; intro w3 A3 B3 s3; have HA3 : Hid (Ar w3 wr.heap.size 0 .u8 z4) := A3; clear A3)
        | (have q3 := s3; refine store_lawF _ rfl (.tmp 6) (.tmp 11) 48 rfl .u8 z4 cs wr.heap.size rfl rfl HA3.out 4 i_arr4 rfl CL.out ?_; intro w4 A4 B4; have HA4 : Hid (Ar w4 wr.heap.size 0 .u8 cs) := A4; clear A4; have B34 : Below wr.heap.size wr w4 := B3.trans (B4.mono (by omega)))
        | (refine load_law _ rfl (.tmp 6) 48 rfl .u8 cs wr.heap.size 0 rfl HA4.out 4 5 Try.underlying48 i_arr4 CL.out ?_)
        | (go_at_call 69; refine (HMk.out _).mono ?_; rintro e w5 ⟨rfl, B5⟩; have BB : Below wr.heap.size wr w5 := B34.trans (B5.mono B34.size); have HA5 : Hid (Ar w5 g0 0 .u8 (prm xs ms k)) := HA.out.below BB (by omega))
        | (have q5 := HA5; refine store_lawM _ rfl (.tmp 16) (.tmp 15) 48 rfl (prm xs ms k) ds g0 (4 * k) (by rw [Nat.mul_comm 4 k]; rfl) rfl HA5.out 4 i_arr4 CM.out (by rw [prm_len]; omega) ?_; intro w6 A6 B6 C6; rw [FC.out] at A6; have HR6 : Hid (Ar w6 g1 0 .u8 z16) := C6 g1 0 .u8 z16 (by omega) (HR.out.below BB hS); clear C6; have HA6 : Hid (Ar w6 g0 0 .u8 (prm xs ms (k + 1))) := A6; clear A6))
      have BR : Below wr.heap.size wr w5 := BB
      have HB6 : Hid (Below g0 w w6) := (HB.out.trans (BR.mono (by omega))).trans B6
      go_roundw
      case rel => exact ⟨k + 1, by omega, by go_num, HA6.out, HR6.out, HB6.out, HR6.out.lt (by rw [z16_len]; omega)⟩
      case measure => simp [intOf]; omega
    · have hk4 : k = 4 := by omega
      subst hk4
      have HA4 : Hid (Ar wr g0 0 .u8 ms) := by have := HA.out; rw [HZ.out.2] at this; exact this
      clear HA
      go_wp2_with (first
        | (refine load_lawN _ rfl (.tmp 2) 50 rfl .u8 ms g0 0 rfl HA4.out 4 16 48 Try.underlying50 i_st ML.out ?_)
        | (refine store_lawF _ rfl (.tmp 4) (.tmp 18) 50 rfl .u8 z16 ms g1 rfl rfl HR.out 16 i_st z16_len ML.out ?_; intro w7 A7 B7))
      refine bodyPost_ret (v := .agg (ints .u8 ms)) (results_arN rfl _ _ g1 0 .u8 ms rfl A7 4 16 48 Try.underlying50 i_st ML.out) rfl ⟨rfl, ?_⟩
      rw [hg0]
      exact HB.out.trans (B7.mono (by omega))

set_option maxHeartbeats 2000000 in
theorem put_subs (xs : List Int) (w : World) (hx : Blk xs) :
    Calls Try.prog 56 #[.agg (ints .u8 xs), .func (.func 57) #[] #[]] w fun e w' => e = .returned (.agg (ints .u8 (looked ptab xs))) ∧ Below w.heap.size w w' := by
  have HX : Hid (Blk xs) := hx
  have HLi : Hid (∀ w0, Calls Try.prog 61 #[.agg (ints .u8 xs)] w0 fun e w' => ∃ g, e = .returned (.slice (some ⟨g, 0, none⟩) 16 16) ∧ Ar w' g 0 .u8 xs ∧ w0.heap.size ≤ g ∧ Below w0.heap.size w0 w') := fun w0 => list_any xs w0 hx.1 hx.2
  have HS : Hid (∀ v w0, Byt w0 v xs → Calls Try.prog 57 #[v] w0 fun e w' => ∃ v', e = .returned v' ∧ Byt w' v' (looked ptab xs) ∧ Below w0.heap.size w0 w') := fun v w0 h => subs_any v xs w0 h (by rw [hx.1]; omega)
  have hb := looked_blk ptab xs pAll hx.1
  have HO : Hid (∀ v w0, Byt w0 v (looked ptab xs) → Calls Try.prog 54 #[v] w0 fun e w' => e = .returned (.agg (ints .u8 (looked ptab xs))) ∧ Below w0.heap.size w0 w') := fun v w0 h => of_any v _ w0 h hb.1
  have ZL : Hid ((looked ptab xs).length = 16) := hb.1
  generalize looked ptab xs = zs at *
  clear hx hb
  go_enter Try.func56, Try.ntmps56
  go_wp2_with (first
    | (refine box_lawF _ rfl (.tmp 0) 50 rfl .u8 xs rfl ?_; intro w1 A1 B1 s1; have HA1 : Hid (Ar w1 w.heap.size 0 .u8 xs) := A1; clear A1)
    | (have q1 := s1; refine new_lawF _ rfl 50 rfl .u8 z16 z_st ?_; intro w2 A2 B2 s2; have HA2 : Hid (Ar w2 w1.heap.size 0 .u8 z16) := A2; clear A2)
    | (have q2 := s2; refine load_lawN _ rfl (.tmp 2) 50 rfl .u8 xs w.heap.size 0 rfl (HA1.out.below B2 s1) 4 16 48 Try.underlying50 i_st HX.out.1 ?_)
    | (go_at_call 54; refine (HO.out _ _ Y4.out).mono ?_; rintro e w5 ⟨rfl, B5⟩; have D5 : Hid (Ar w5 w1.heap.size 0 .u8 z16) := ((HA2.out.below B3 s2).below B4 (by have := B3.size; omega)).below B5 (by have := B3.size; have := B4.size; omega))
    | (go_at_call 57; refine (HS.out _ _ Y3.out).mono ?_; rintro e w4 ⟨v4, rfl, y4, B4⟩; have Y4 : Hid (Byt w4 v4 zs) := y4; clear y4)
    | (go_at_call 61; refine (HLi.out _).mono ?_; rintro e w3 ⟨g, rfl, A3, L3, B3⟩; have Y3 : Hid (Byt w3 (.slice (some ⟨g, 0, none⟩) 16 16) xs) := A3.bytG HX.out.2 16 16 HX.out.1 (by omega) (by omega); clear A3)
    | (have q5 := D5; refine store_lawF _ rfl (.tmp 4) (.tmp 9) 50 rfl .u8 z16 zs w1.heap.size rfl rfl D5.out 16 i_st z16_len ZL.out ?_; intro w6 A6 B6))
  refine bodyPost_ret (v := .agg (ints .u8 zs)) (results_arN rfl _ _ w1.heap.size 0 .u8 zs rfl A6 4 16 48 Try.underlying50 i_st ZL.out) rfl ⟨rfl, ?_⟩
  have z3 := B3.size
  have z4_ := B4.size
  exact ((((B1.trans (B2.mono (by omega))).trans (B3.mono (by omega))).trans (B4.mono (by omega))).trans (B5.mono (by omega))).trans (B6.mono (by omega))

set_option maxHeartbeats 2000000 in
theorem put_backsl (xs : List Int) (w : World) (hx : Blk xs) :
    Calls Try.prog 56 #[.agg (ints .u8 xs), .func (.func 68) #[] #[]] w fun e w' => e = .returned (.agg (ints .u8 (looked btab xs))) ∧ Below w.heap.size w w' := by
  have HX : Hid (Blk xs) := hx
  have HLi : Hid (∀ w0, Calls Try.prog 61 #[.agg (ints .u8 xs)] w0 fun e w' => ∃ g, e = .returned (.slice (some ⟨g, 0, none⟩) 16 16) ∧ Ar w' g 0 .u8 xs ∧ w0.heap.size ≤ g ∧ Below w0.heap.size w0 w') := fun w0 => list_any xs w0 hx.1 hx.2
  have HS : Hid (∀ v w0, Byt w0 v xs → Calls Try.prog 68 #[v] w0 fun e w' => ∃ v', e = .returned v' ∧ Byt w' v' (looked btab xs) ∧ Below w0.heap.size w0 w') := fun v w0 h => backsl_any v xs w0 h (by rw [hx.1]; omega)
  have hb := looked_blk btab xs bAll hx.1
  have HO : Hid (∀ v w0, Byt w0 v (looked btab xs) → Calls Try.prog 54 #[v] w0 fun e w' => e = .returned (.agg (ints .u8 (looked btab xs))) ∧ Below w0.heap.size w0 w') := fun v w0 h => of_any v _ w0 h hb.1
  have ZL : Hid ((looked btab xs).length = 16) := hb.1
  generalize looked btab xs = zs at *
  clear hx hb
  go_enter Try.func56, Try.ntmps56
  go_wp2_with (first
    | (refine box_lawF _ rfl (.tmp 0) 50 rfl .u8 xs rfl ?_; intro w1 A1 B1 s1; have HA1 : Hid (Ar w1 w.heap.size 0 .u8 xs) := A1; clear A1)
    | (have q1 := s1; refine new_lawF _ rfl 50 rfl .u8 z16 z_st ?_; intro w2 A2 B2 s2; have HA2 : Hid (Ar w2 w1.heap.size 0 .u8 z16) := A2; clear A2)
    | (have q2 := s2; refine load_lawN _ rfl (.tmp 2) 50 rfl .u8 xs w.heap.size 0 rfl (HA1.out.below B2 s1) 4 16 48 Try.underlying50 i_st HX.out.1 ?_)
    | (go_at_call 54; refine (HO.out _ _ Y4.out).mono ?_; rintro e w5 ⟨rfl, B5⟩; have D5 : Hid (Ar w5 w1.heap.size 0 .u8 z16) := ((HA2.out.below B3 s2).below B4 (by have := B3.size; omega)).below B5 (by have := B3.size; have := B4.size; omega))
    | (go_at_call 68; refine (HS.out _ _ Y3.out).mono ?_; rintro e w4 ⟨v4, rfl, y4, B4⟩; have Y4 : Hid (Byt w4 v4 zs) := y4; clear y4)
    | (go_at_call 61; refine (HLi.out _).mono ?_; rintro e w3 ⟨g, rfl, A3, L3, B3⟩; have Y3 : Hid (Byt w3 (.slice (some ⟨g, 0, none⟩) 16 16) xs) := A3.bytG HX.out.2 16 16 HX.out.1 (by omega) (by omega); clear A3)
    | (have q5 := D5; refine store_lawF _ rfl (.tmp 4) (.tmp 9) 50 rfl .u8 z16 zs w1.heap.size rfl rfl D5.out 16 i_st z16_len ZL.out ?_; intro w6 A6 B6))
  refine bodyPost_ret (v := .agg (ints .u8 zs)) (results_arN rfl _ _ w1.heap.size 0 .u8 zs rfl A6 4 16 48 Try.underlying50 i_st ZL.out) rfl ⟨rfl, ?_⟩
  have z3 := B3.size
  have z4_ := B4.size
  exact ((((B1.trans (B2.mono (by omega))).trans (B3.mono (by omega))).trans (B4.mono (by omega))).trans (B5.mono (by omega))).trans (B6.mono (by omega))
end Go.Proofs.Ytjiddmgnkldmkaa
