/- What nand's small functions answer: On, Ops, has, Erases, part, slices.Max. No claim of its own. -/
import Derived.Test.YtnklbmeadjgehaaNStp
import Derived.Test.YtnklbmeadjgehaaGInts
namespace Go.Proofs.Ytnklbmeadjgehaa.na
open Go.RowKit Go.Proofs.Ytnklbmeadjgehaa.fa
set_option maxRecDepth 20000

theorem on_any (c : Nat) (on : Bool) (w : World) (h : w.cell? ⟨c, 7, none⟩ = some (.bool on)) :
    Calls Try.prog 17 #[.pointer (some ⟨c, 0, none⟩)] w fun e w' => e = .returned (.bool on) ∧ w' = w := by
  go_enter Try.func17, Try.ntmps17
  go_wp2
  go_ret
  exact ⟨rfl, rfl⟩
theorem on_nil (w : World) : Calls Try.prog 17 #[.pointer none] w fun e w' => e = .returned (.bool false) ∧ w' = w := by
  go_enter Try.func17, Try.ntmps17
  go_wp2
  go_ret
  exact ⟨rfl, rfl⟩
theorem ops_any (c : Nat) (ao : Option Addr) (n cap : Nat) (w : World) (h : w.cell? ⟨c, 10, none⟩ = some (.slice ao n cap)) :
    Calls Try.prog 16 #[.pointer (some ⟨c, 0, none⟩)] w fun e w' => e = .returned (.int .i64 (n : Int)) ∧ w' = w := by
  go_enter Try.func16, Try.ntmps16
  go_wp2
  go_ret
  exact ⟨rfl, rfl⟩
theorem ops_nil (w : World) : Calls Try.prog 16 #[.pointer none] w fun e w' => e = .returned (.int .i64 0) ∧ w' = w := by
  go_enter Try.func16, Try.ntmps16
  go_wp2
  go_ret
  exact ⟨rfl, rfl⟩
theorem has_any (c r N : Nat) (b : Int) (w : World) (h : w.cell? ⟨c, 9, none⟩ = some (.slice (some ⟨r, 0, none⟩) N N)) (t : Bool) (ht : t = decide (0 ≤ b ∧ b < N)) :
    Calls Try.prog 45 #[.pointer (some ⟨c, 0, none⟩), .int .i64 b] w fun e w' => e = .returned (.bool t) ∧ w' = w := by
  by_cases h0 : 0 ≤ b
  · have HT : Hid (decide (b < (N : Int)) = t) := by subst ht; show _ = _; simp [h0]
    clear ht
    go_enter Try.func45, Try.ntmps45
    go_wp2
    go_ret
    exact ⟨ret_bool HT.out, rfl⟩
  · have h1 : ¬ (0 ≤ b) := h0
    have HT : Hid (false = t) := by subst ht; show _ = _; simp [h0]
    have h2 : b < 0 := by omega
    clear ht
    go_enter Try.func45, Try.ntmps45
    go_wp2
    go_ret
    exact ⟨ret_bool HT.out, rfl⟩
theorem has_nil (b : Int) (w : World) : Calls Try.prog 45 #[.pointer none, .int .i64 b] w fun e w' => e = .returned (.bool false) ∧ w' = w := by
  go_enter Try.func45, Try.ntmps45
  go_wp2
  go_ret
  exact ⟨rfl, rfl⟩
theorem part_any (d L n sz : Nat) (w : World) (hs : 0 < sz) (hL : (n + 1) * sz ≤ L) (hm : L ≤ 16777216) (hn : n ≤ 16777216) (hz : sz ≤ 16777216) :
    Calls Try.prog 70 #[.slice (some ⟨d, 0, none⟩) L L, .int .i64 (n : Int), .int .i64 (sz : Int)] w fun e w' => e = .returned (.slice (some ⟨d, n * sz, none⟩) sz (L - n * sz)) ∧ w' = w := by
  obtain ⟨k, hk⟩ : ∃ k, k = n * sz := ⟨_, rfl⟩
  rw [Nat.succ_mul] at hL
  rw [← hk] at hL ⊢
  have q1 : IntKind.i64.wrap ((n : Int) * (sz : Int)) = (k : Int) := by
    have : (n : Int) * (sz : Int) = (k : Int) := by rw [hk]; simp
    rw [this, IntKind.wrap_i64]; omega
  have q2 : IntKind.i64.wrap ((n : Int) + 1) = (n : Int) + 1 := by rw [IntKind.wrap_i64]; omega
  have q3 : IntKind.i64.wrap (((n : Int) + 1) * (sz : Int)) = ((k + sz : Nat) : Int) := by
    have : ((n : Int) + 1) * (sz : Int) = ((k + sz : Nat) : Int) := by rw [hk, Int.add_mul]; simp
    rw [this, IntKind.wrap_i64]; omega
  have HE : Hid (k + sz - k = sz) := by show _ = _; omega
  have hne : ¬ (L = k) := by omega
  have i0 : (0 : Int) ≤ (k : Int) := by omega
  have i1 : (k : Int) ≤ ((k + sz : Nat) : Int) := by omega
  have i2 : ((k + sz : Nat) : Int) ≤ (L : Int) := by omega
  clear hk
  obtain ⟨m, hm'⟩ : ∃ m, m = k + sz := ⟨_, rfl⟩
  rw [← hm'] at q3 i1 i2 HE
  clear hm'
  go_enter Try.func70, Try.ntmps70
  go_wp2
  go_ret
  refine ⟨?_, rfl⟩
  rw [HE.out]
  rfl

/-- the greatest of numbers -/
def Mx (xs : List Int) (m : Int) : Prop := (∀ i, i < xs.length → gb xs i ≤ m) ∧ ∃ i, i < xs.length ∧ gb xs i = m
set_option maxHeartbeats 1000000 in
theorem max_any (b o n cap : Nat) (xs : List Int) (w : World) (h : Ar w b o .i64 xs) (hl : xs.length = n) (h0 : 0 < n) (hn : n ≤ cap) (hc : cap ≤ 9223372036854775807) :
    Calls Try.prog 71 #[.slice (some ⟨b, o, none⟩) n cap] w fun e w' => ∃ m, e = .returned (.int .i64 m) ∧ Mx xs m ∧ w' = w := by
  have H : Hid (Ar w b o .i64 xs) := h
  have c0 : w.cell? ⟨b, o, none⟩ = some (.int .i64 (gb xs 0)) := by have := h.cell 0 (by omega); rwa [Nat.add_zero] at this
  have i0 : ¬ ((n : Int) < 1) := by omega
  have i1 : (0 : Int) < (n : Int) := by omega
  clear h
  go_enter Try.func71, Try.ntmps71
  go_wp2
  go_loopw [3, 4] (fun m i wr => ∃ (k : Nat) (x : Int), 1 ≤ k ∧ k ≤ n ∧ m = .int .i64 x ∧ i = .int .i64 k ∧ Hid ((∀ i, i < k → gb xs i ≤ x) ∧ ∃ i, i < n ∧ gb xs i = x) ∧ wr = w) (fun _ i _ => n - (intOf i).toNat)
  case atStart => exact ⟨1, gb xs 0, by omega, by omega, rfl, rfl, ⟨fun i hi => by rw [show i = 0 by omega]; exact Int.le_refl _, 0, h0, rfl⟩, rfl⟩
  case round =>
    obtain ⟨k, x, hk1, hk, rfl, rfl, HX, hw⟩ := hrel
    subst hw
    have k0 : (0 : Int) ≤ (k : Int) := by omega
    by_cases hlt : k < n
    · have k1 : (k : Int) < (n : Int) := by omega
      have ck := H.out.cell k (by omega)
      obtain ⟨y, hy⟩ : ∃ y, gb xs k = y := ⟨_, rfl⟩
      rw [hy] at ck
      have HY : Hid (gb xs k = y) := hy
      clear hy c0
      go_wp2
      go_roundw
      case rel =>
        refine ⟨k + 1, _, by omega, by omega, rfl, by go_num, ⟨fun i hi => ?_, ?_⟩, trivial⟩
        · have hm : x ≤ (if x < y then y else x) ∧ y ≤ (if x < y then y else x) := by split <;> omega
          rcases Nat.lt_or_ge i k with q | q
          · exact Int.le_trans (HX.out.1 i q) hm.1
          · rw [show i = k by omega, HY.out]; exact hm.2
        · by_cases hxy : x < y
          · rw [if_pos hxy]; exact ⟨k, hlt, HY.out⟩
          · rw [if_neg hxy]; exact HX.out.2
      case measure => simp [intOf]; omega
    · have e : k = n := by omega
      subst e
      go_wp2
      go_ret
      exact ⟨_, rfl, ⟨fun i hi => HX.out.1 i (by omega), by rw [hl]; exact HX.out.2⟩, rfl⟩

section
variable {M : Nat → Bool} {w : World} {c r d : Nat} {q : Nat → Nat} {pv tv : Value} {g : List Int} {N P S : Nat} {pl : Pln} {X : Raw}
theorem Lay.st (h : Lay M w c r d q pv tv g N P S pl X) {b : Nat} (hb : b < N) : w.cell? ⟨r, b * 3, none⟩ = some (.slice (some ⟨q b, 0, none⟩) P P) ∧ w.cell? ⟨r, b * 3 + 1, none⟩ = some (.int .i64 (xe X b)) ∧ w.cell? ⟨r, b * 3 + 2, none⟩ = some (.bool (xs X b)) := by
  obtain ⟨-, -, -, -, -, h6, -⟩ := h
  have := (h6 b hb).1
  exact ⟨this 0 _ rfl, this 1 _ rfl, this 2 _ rfl⟩
theorem Lay.num (h : Lay M w c r d q pv tv g N P S pl X) : 7 ≤ N ∧ N ≤ 64 ∧ 4 ≤ P ∧ P ≤ 32 ∧ 120 ≤ S ∧ S ≤ 4184 := by
  obtain ⟨⟨-, hr, e1, e2, e3⟩, -⟩ := h
  obtain ⟨k1, k2, k3, -⟩ := hr.1
  omega
theorem Lay.bytes (h : Lay M w c r d q pv tv g N P S pl X) : P * S ≤ 133888 ∧ N * (P * S) ≤ 8568832 ∧ 0 < P * S := by
  obtain ⟨a1, a2, a3, a4, a5, a6⟩ := h.num
  have b1 : P * S ≤ 32 * 4184 := Nat.mul_le_mul a4 a6
  have b2 : N * (P * S) ≤ 64 * (32 * 4184) := Nat.mul_le_mul a2 b1
  have b3 : 4 * 120 ≤ P * S := Nat.mul_le_mul a3 a5
  omega
theorem erases_any (h : Lay M w c r d q pv tv g N P S pl X) (b : Int) (x : Int) (hx : 0 ≤ b ∧ b < N → x = xe X b.toNat) (hy : ¬ (0 ≤ b ∧ b < N) → x = 0) :
    Calls Try.prog 18 #[.pointer (some ⟨c, 0, none⟩), .int .i64 b] w fun e w' => e = .returned (.int .i64 x) ∧ w' = w := by
  obtain ⟨-, -, -, f9, -⟩ := h.cells
  have SH : Hid (∀ w0 t, w0 = w → t = decide (0 ≤ b ∧ b < N) → Calls Try.prog 45 #[.pointer (some ⟨c, 0, none⟩), .int .i64 b] w0 fun e w' => e = .returned (.bool t) ∧ w' = w0) := fun w0 t e ht => by subst e; exact has_any c r N b w0 f9 t ht
  by_cases hb : 0 ≤ b ∧ b < N
  · obtain ⟨n, rfl⟩ : ∃ n : Nat, b = (n : Int) := ⟨b.toNat, by omega⟩
    have hn : n < N := by omega
    obtain ⟨s0, s1, s2⟩ := h.st hn
    have e1 := hx hb
    rw [Int.toNat_natCast] at e1
    rw [← e1] at s1
    have i0 : (0 : Int) ≤ (n : Int) := by omega
    have i1 : (n : Int) < (N : Int) := by omega
    have HT : Hid (true = decide (0 ≤ (n : Int) ∧ (n : Int) < N)) := by show _ = _; simp [i0, i1]
    clear h hx hy e1 hb s0 s2
    go_enter Try.func18, Try.ntmps18
    go_wp2_with (go_at_call 45; refine (SH.out _ true rfl HT.out).mono ?_; rintro e w' ⟨rfl, hw⟩; obtain rfl := hw.symm)
    go_ret
    exact ⟨rfl, rfl⟩
  · have e1 := hy hb
    subst e1
    have HT : Hid (false = decide (0 ≤ b ∧ b < N)) := by show _ = _; simp only [decide_eq_false hb]
    clear h hx hy hb
    go_enter Try.func18, Try.ntmps18
    go_wp2_with (go_at_call 45; refine (SH.out _ false rfl HT.out).mono ?_; rintro e w' ⟨rfl, hw⟩; obtain rfl := hw.symm)
    go_ret
    exact ⟨rfl, rfl⟩
theorem erases_nil (b : Int) (w : World) : Calls Try.prog 18 #[.pointer none, .int .i64 b] w fun e w' => e = .returned (.int .i64 0) ∧ w' = w := by
  have SH : Hid (∀ w0, Calls Try.prog 45 #[.pointer none, .int .i64 b] w0 fun e w' => e = .returned (.bool false) ∧ w' = w0) := fun w0 => has_nil b w0
  go_enter Try.func18, Try.ntmps18
  go_wp2_with (go_at_call 45; refine (SH.out _).mono ?_; rintro e w' ⟨rfl, hw⟩; obtain rfl := hw.symm)
  go_ret
  exact ⟨rfl, rfl⟩
end
end Go.Proofs.Ytnklbmeadjgehaa.na
