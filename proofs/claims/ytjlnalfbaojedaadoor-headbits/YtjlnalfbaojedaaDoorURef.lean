/- What the reference's Bit and And answer. No claim of its own. -/
import Derived.Test.YtjlnalfbaojedaaDoorUOne
import Derived.Test.YtjlnalfbaojedaaDoorUOwn
namespace Go.Proofs.YtjlnalfbaojedaaDoor.fa
open Go.RowKit
set_option maxRecDepth 20000

set_option maxHeartbeats 1000000 in
theorem rbit_any (vm : Value) (m : List Int) (i : Int) (w : World) (hm : Byt w vm m) (hi : i ≤ 9223372036854775807) :
    Calls Tryd.prog 42 #[vm, .int .i64 i] w fun e w' => e = .returned (.bool (bo m i)) ∧ ∃ n, w' = w.drewN n := by
  obtain ⟨ao, cap, rfl, h2, h3, h4, h5, h6⟩ := hm
  by_cases h0 : i < 0
  · have e : bo m i = false := if_pos h0
    rw [e]
    clear h6 h4 h5
    go_enter Tryd.func42, Tryd.ntmps42
    go_wp2
    go_ret
    exact ⟨rfl, 0, rfl⟩
  · obtain ⟨n, rfl⟩ := Int.eq_ofNat_of_zero_le (show 0 ≤ i by omega)
    have e : bo m n = mk m n := by unfold bo; rw [if_neg h0, Int.toNat_natCast]
    rw [e]
    clear e
    by_cases hl : m.length = 0
    · have e : mk m n = true := by unfold mk; rw [hl]; rfl
      rw [e]
      clear e h6 h4 h5
      generalize hq : m.length = len at *
      subst hl
      go_enter Tryd.func42, Tryd.ntmps42
      go_wp2
      go_quiet (fail)
      go_wp2
      go_ret
      exact ⟨rfl, _, rfl⟩
    · obtain ⟨b, off, rfl, hc⟩ := h6 (by omega)
      have S : Hid (∀ w0, Calls Tryd.prog 43 #[.int .i64 ((n % 8 : Nat) : Int)] w0 fun e w' => e = .returned (.int .i64 ((2 ^ (n % 8) : Nat) : Int)) ∧ w' = w0) := fun w0 => power_any (n % 8) w0 (by omega)
      unfold mk bit
      rw [show (m.length == 0) = false by simpa using hl, Bool.false_or]
      have hb := h4 (n / 8 % m.length)
      have c1 := hc (n / 8 % m.length) (Nat.mod_lt _ (by omega))
      have pl : n / 8 % m.length < m.length := Nat.mod_lt _ (by omega)
      have r0 : ((n / 8 : Nat) : Int).tmod (m.length : Int) = ((n / 8 % m.length : Nat) : Int) := by rw [Int.tmod_eq_emod_of_nonneg (by omega), Int.natCast_emod]
      generalize n / 8 % m.length = p at *
      have r1 : (n : Int).tdiv 8 = ((n / 8 : Nat) : Int) := by rw [Int.tdiv_eq_ediv_of_nonneg (by omega)]; omega
      have r2 : (n : Int).tmod 8 = ((n % 8 : Nat) : Int) := by rw [Int.tmod_eq_emod_of_nonneg (by omega)]; omega
      have tb : n % 8 < 8 := by omega
      have jb : n / 8 ≤ n := by omega
      have n0 : ((n : Nat) : Int) ≥ 0 := by omega
      generalize n % 8 = t at *
      generalize n / 8 = j at *
      have j2 : IntKind.i64.wrap (j : Int) = j := by rw [IntKind.wrap_i64]; omega
      have t2 : IntKind.i64.wrap (t : Int) = t := by rw [IntKind.wrap_i64]; omega
      have p2 : IntKind.i64.wrap (p : Int) = p := by rw [IntKind.wrap_i64]; omega
      have p1 : (p : Int) < (m.length : Int) := by omega
      have p0 : (0 : Int) ≤ (p : Int) := by omega
      have m0 : (m.length : Int) ≠ 0 := by omega
      have m9 : ((m.length : Int) == 0) = false := by simpa using m0
      have q0 : 0 < 2 ^ t := Nat.two_pow_pos t
      obtain ⟨x, hx2⟩ : ∃ x : Nat, gb m p = x := ⟨(gb m p).toNat, by omega⟩
      have xb : x ≤ 255 := by omega
      rw [hx2] at c1 ⊢
      rw [Int.toNat_natCast]
      have q2 : 2 ^ t ≤ 128 := Nat.pow_le_pow_right (by omega) (show t ≤ 7 by omega)
      generalize 2 ^ t = q at *
      have r3 : (x : Int).tdiv (q : Int) = ((x / q : Nat) : Int) := by rw [Int.tdiv_eq_ediv_of_nonneg (by omega), Int.natCast_ediv]
      have l3 : x / q ≤ x := Nat.div_le_self _ _
      generalize x / q = y at *
      have r4 : (y : Int).tmod 2 = ((y % 2 : Nat) : Int) := by rw [Int.tmod_eq_emod_of_nonneg (by omega)]; omega
      have r5 : IntKind.i64.wrap (y : Int) = (y : Int) := by rw [IntKind.wrap_i64]; omega
      have zb : y % 2 ≤ 1 := by omega
      generalize y % 2 = z at *
      have r6 : IntKind.i64.wrap (z : Int) = (z : Int) := by rw [IntKind.wrap_i64]; omega
      have r7 : IntKind.i64.wrap (x : Int) = (x : Int) := by rw [IntKind.wrap_i64]; omega
      have qn : (q : Int) ≠ 0 := by omega
      clear hc h6 h4 h5 hx2 hb
      go_enter Tryd.func42, Tryd.ntmps42
      go_wp2
      go_quiet ((go_at_call 43; exact Calls.quiet_of_same (S.out _)))
      go_wp2
      go_ret
      exact ⟨ret_bool (by rw [Bool.eq_iff_iff]; simp; omega), _, rfl⟩

/-- 'a & b', byte by byte -/
def andl (xs ys : List Int) : List Int := (List.range xs.length).map fun k => (((gb xs k).toNat &&& (gb ys k).toNat : Nat) : Int)
theorem andl_len (xs ys : List Int) : (andl xs ys).length = xs.length := by simp [andl]
theorem andl_gb (xs ys : List Int) (k : Nat) (h : k < xs.length) : gb (andl xs ys) k = (((gb xs k).toNat &&& (gb ys k).toNat : Nat) : Int) := by simp [gb, List.getD, andl, h]
theorem andl_ofb (xs ys : List Int) (hx : AllB xs) : andl xs ys = ofb xs.length fun i => hs xs i && hs ys i := by
  refine ext_gb (by rw [andl_len, ofb_len]) fun k hk => ?_
  rw [andl_len] at hk
  rw [andl_gb xs ys k hk, ofb_gb _ _ k hk, ands_ofb xs ys hx k]
theorem andl_all (xs ys : List Int) (hx : AllB xs) : AllB (andl xs ys) := by rw [andl_ofb xs ys hx]; exact ofb_all _ _
theorem andl_take (xs ys : List Int) (k : Nat) (hk : k < xs.length) : (andl xs ys).take (k + 1) = (andl xs ys).take k ++ [gb (andl xs ys) k] := by
  rw [List.take_succ_eq_append_getElem (by rw [andl_len]; exact hk)]
  simp [gb, List.getD, show k < (andl xs ys).length by rw [andl_len]; exact hk]

set_option maxHeartbeats 2000000 in
theorem rand_any (va vb : Value) (xs ys : List Int) (w : World) (ha : Byt w va xs) (hb : Byt w vb ys) (hl : xs.length = ys.length) (hmax : xs.length ≤ 1048576) :
    Calls Tryd.prog 22 #[va, vb] w fun e w' => ∃ v, e = .returned v ∧ Byt w' v (andl xs ys) ∧ Below w.heap.size w w' := by
  obtain ⟨ao, ca, rfl, ha1, ha2, ha3, -, ha5⟩ := ha
  obtain ⟨bo, cb, rfl, hb1, hb2, hb3, -, hb5⟩ := hb
  have HL : Hid (xs.length = ys.length) := hl
  have HA5 : Hid (0 < xs.length → ∃ b off, ao = some ⟨b, off, none⟩ ∧ ∀ t, t < xs.length → w.cell? ⟨b, off + t, none⟩ = some (.int .u8 (gb xs t))) := ha5
  have HB5 : Hid (0 < xs.length → ∃ b off, bo = some ⟨b, off, none⟩ ∧ ∀ t, t < xs.length → w.cell? ⟨b, off + t, none⟩ = some (.int .u8 (gb ys t))) := by
    rw [hl]; exact hb5
  have HA : Hid (AllB xs) := ha3
  have HB : Hid (AllB ys) := hb3
  rw [← hl] at hb1 ⊢
  clear hb5 ha5 ha3 hb3 hl
  have HZ : Hid ((andl xs ys).length = xs.length) := andl_len xs ys
  go_enter Tryd.func22, Tryd.ntmps22
  go_wp2
  go_loopw [5, 6] (fun v i wr => ∃ k : Nat, k ≤ xs.length ∧ i = .int .i64 k ∧ Own w.heap.size wr v ((andl xs ys).take k) ∧ Below w.heap.size w wr) (fun _ i _ => xs.length - (intOf i).toNat)
  case atStart => exact ⟨0, Nat.zero_le _, rfl, Own.empty w (Nat.le_refl _), (Below.refl _ _).alloc (Nat.le_refl _) _⟩
  case round =>
    obtain ⟨k, hk, rfl, hown, hbel⟩ := hrel
    have hsz := hbel.size
    by_cases hlt' : k < xs.length
    · obtain ⟨b, off, rfl, hca⟩ := HA5.out (by omega)
      obtain ⟨b', off', rfl, hcb⟩ := HB5.out (by omega)
      have n1 := World.block_lt_of_cell? w _ (hca k hlt')
      have n2 := World.block_lt_of_cell? w _ (hcb k hlt')
      have c1 : wr.cell? ⟨b, off + k, none⟩ = some (.int .u8 (gb xs k)) := (hbel.cell n1).trans (hca k hlt')
      have c2 : wr.cell? ⟨b', off' + k, none⟩ = some (.int .u8 (gb ys k)) := (hbel.cell n2).trans (hcb k hlt')
      have lk : (k : Int) < (xs.length : Int) := by omega
      have lk0 : (0 : Int) ≤ (k : Int) := by omega
      have a1 := HA.out k
      have a2 := HB.out k
      have hx : bits .and .u8 (gb xs k) (gb ys k) = gb (andl xs ys) k := by rw [andl_gb xs ys k hlt']; exact u8_and _ _ a1.1 (by omega) a2.1 (by omega)
      have SN : Hid ((andl xs ys).take (k + 1) = (andl xs ys).take k ++ [gb (andl xs ys) k]) := andl_take xs ys k hlt'
      have HLEN : Hid (((andl xs ys).take k).length ≤ 1099511627776) := by show _ ≤ _; simp; omega
      clear hca hcb a1 a2
      go_wp2
      go_region_held3 (fun w' => w'.cell? ⟨b, off + k, none⟩ = some (.int .u8 (gb xs k)) ∧ w'.cell? ⟨b', off' + k, none⟩ = some (.int .u8 (gb ys k)))
        (first
          | go_keep
          | (exact ⟨by rw [hbel'.cell n1]; simpa using c1, by rw [hbel'.cell n2]; simpa using c2⟩))
        ((refine step_push1 wr.drew rfl (.tmp 14) (.tmp 24) rfl w.heap.size (by simpa using hsz) _ _ (gb (andl xs ys) k) rfl rfl hown HLEN.out ?_; intro v2 w2 hown' hbel'))
      go_wp2
      go_roundw
      case rel => exact ⟨k + 1, by omega, by go_num, by rw [SN.out]; exact hown', hbel.drew.trans hbel'⟩
      case measure => simp [intOf]; omega
    · have hks : k = xs.length := by omega
      have e : Hid ((andl xs ys).take k = andl xs ys) := List.take_of_length_le (by rw [HZ.out]; omega)
      rw [e.out] at hown
      go_wp2
      go_ret
      exact ⟨_, rfl, hown.byt (andl_all _ _ HA.out), hbel⟩
end Go.Proofs.YtjlnalfbaojedaaDoor.fa
