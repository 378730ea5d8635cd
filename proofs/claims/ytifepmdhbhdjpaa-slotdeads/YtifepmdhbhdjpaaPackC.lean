/- Texts put together (a claim holds few files). No claim of its own. -/
import Derived.Test.YtifepmdhbhdjpaaPackB
import Derived.Deep.RegionHeld3
import Derived.Test.YtifepmdhbhdjpaaPackA
import Derived.Lib.AppendZeros
import Derived.Lib.SliceRun
/- What octet's Xor, Same and Invert and the reference's Xor and Invert answer. No claim of its own. -/
namespace Go.Proofs.Ytifepmdhbhdjpaa
open Go.RowKit
set_option maxRecDepth 20000

/-- zs, filled as far as place k -/
def part (zs : List Int) (k : Nat) : List Int := zs.take k ++ List.replicate (zs.length - k) 0
theorem part_zero (zs : List Int) : part zs 0 = List.replicate zs.length 0 := by simp [part]
theorem part_end (zs : List Int) : part zs zs.length = zs := by simp [part]
theorem part_set (zs : List Int) (k : Nat) (h : k < zs.length) : (part zs k).set k (gb zs k) = part zs (k + 1) := by
  unfold part
  obtain ⟨d, hd⟩ : ∃ d, zs.length - k = d + 1 := ⟨zs.length - k - 1, by omega⟩
  have e : zs.length - (k + 1) = d := by omega
  have hm : min k zs.length = k := by omega
  rw [hd, e, List.set_append_right _ _ (by simp; omega), List.take_succ_eq_append_getElem h, List.append_assoc]
  simp only [List.length_take, hm, Nat.sub_self, List.replicate_succ, List.set_cons_zero, gb, List.getD, List.getElem?_eq_getElem h, Option.getD_some, List.cons_append, List.nil_append]

/-- two bytes, xored -/
def xr (a b : Int) : Int := ((a.toNat ^^^ b.toNat : Nat) : Int)
theorem xr_of (a b : Int) (ha : 0 ≤ a ∧ a ≤ 255) (hb : 0 ≤ b ∧ b ≤ 255) : bits .xor .u8 a b = xr a b := u8_xor a b ha.1 (by omega) hb.1 (by omega)
theorem xr_bd (a b : Int) (ha : 0 ≤ a ∧ a ≤ 255) (hb : 0 ≤ b ∧ b ≤ 255) : 0 ≤ xr a b ∧ xr a b ≤ 255 := by
  unfold xr
  have := Nat.xor_lt_two_pow (n := 8) (show a.toNat < 2 ^ 8 by omega) (show b.toNat < 2 ^ 8 by omega)
  omega
theorem xr_comm (a b : Int) : xr a b = xr b a := by unfold xr; rw [Nat.xor_comm]
theorem xr_back (a b : Int) (ha : 0 ≤ a) : xr (xr a b) b = a := by
  unfold xr
  rw [Int.toNat_natCast, Nat.xor_assoc, Nat.xor_self, Nat.xor_zero, Int.toNat_of_nonneg ha]
theorem xr_zero (a b : Int) (ha : 0 ≤ a) (hb : 0 ≤ b) : xr a b = 0 ↔ a = b := by
  unfold xr
  constructor
  · intro h
    have h1 : a.toNat ^^^ b.toNat = 0 := by omega
    have h2 : a.toNat = b.toNat := by
      have := congrArg (· ^^^ b.toNat) h1
      simpa [Nat.xor_assoc] using this
    omega
  · rintro rfl; simp

/-- two lists, xored byte by byte -/
def xorl (xs ys : List Int) : List Int := List.zipWith xr xs ys
theorem xorl_len (xs ys : List Int) (h : xs.length = ys.length) : (xorl xs ys).length = xs.length := by simp [xorl]; omega
theorem xorl_gb (xs ys : List Int) (h : xs.length = ys.length) (k : Nat) (hk : k < xs.length) : gb (xorl xs ys) k = xr (gb xs k) (gb ys k) := by
  simp [gb, xorl, List.getD, List.getElem?_zipWith, hk, show k < ys.length by omega]
theorem xorl_all (xs ys : List Int) (h : xs.length = ys.length) (ha : AllB xs) (hb : AllB ys) : AllB (xorl xs ys) := by
  intro k
  by_cases hk : k < xs.length
  · rw [xorl_gb xs ys h k hk]; exact xr_bd _ _ (ha k) (hb k)
  · have : gb (xorl xs ys) k = 0 := by simp only [gb, List.getD, List.getElem?_eq_none (show (xorl xs ys).length ≤ k by rw [xorl_len xs ys h]; omega)]; rfl
    omega
theorem xorl_back (xs ys : List Int) (h : xs.length = ys.length) (ha : AllB xs) : xorl (xorl xs ys) ys = xs := by
  have hl := xorl_len xs ys h
  refine ext_gb (by rw [xorl_len _ _ (by omega)]; omega) fun t ht => ?_
  rw [xorl_len _ _ (by omega)] at ht
  rw [xorl_gb _ _ (by omega) t (by omega), xorl_gb _ _ h t (by omega), xr_back _ _ (ha t).1]
theorem xorl_take (xs ys : List Int) (h : xs.length = ys.length) (k : Nat) (hk : k < xs.length) : (xorl xs ys).take (k + 1) = (xorl xs ys).take k ++ [xr (gb xs k) (gb ys k)] := by
  have hl := xorl_len xs ys h
  rw [List.take_succ_eq_append_getElem (by omega), ← xorl_gb xs ys h k hk]
  simp [gb, List.getD, show k < (xorl xs ys).length by omega]

set_option maxHeartbeats 2000000 in
theorem xor_any (va vb : Value) (xs ys : List Int) (w : World) (ha : Byt w va xs) (hb : Byt w vb ys) (hl : xs.length = ys.length) (hmax : xs.length ≤ 1048576) :
    Calls Try.prog 77 #[va, vb] w fun e w' => ∃ v, e = .returned (.tuple #[v, .int .i64 0]) ∧ Byt w' v (xorl xs ys) ∧ Below w.heap.size w w' := by
  obtain ⟨ao, ca, rfl, ha1, ha2, ha3, -, ha5⟩ := ha
  obtain ⟨bo, cb, rfl, hb1, hb2, hb3, -, hb5⟩ := hb
  have HL : Hid (xs.length = ys.length) := hl
  have HA5 : Hid (0 < xs.length → ∃ b off, ao = some ⟨b, off, none⟩ ∧ ∀ t, t < xs.length → w.cell? ⟨b, off + t, none⟩ = some (.int .u8 (gb xs t))) := ha5
  have HB5 : Hid (0 < xs.length → ∃ b off, bo = some ⟨b, off, none⟩ ∧ ∀ t, t < xs.length → w.cell? ⟨b, off + t, none⟩ = some (.int .u8 (gb ys t))) := by
    rw [hl]; exact hb5
  have HA : Hid (AllB xs) := ha3
  have HB : Hid (AllB ys) := hb3
  rw [← hl] at hb1 ⊢
  clear hb5 ha5 ha3 hb3 hl
  have hz := xorl_len xs ys HL.out
  have HZ : Hid ((xorl xs ys).length = xs.length) := hz
  clear hz
  go_enter Try.func77, Try.ntmps77
  go_wp2_with (at_make; refine make_law _ rfl (.tmp 14) (.tmp 14) rfl w.heap.size (Nat.le_refl _) _ xs.length rfl rfl rfl (by omega) ?_; intro w1 hown hbel hlt)
  go_loopw [18] (fun i wr => ∃ k : Nat, k ≤ xs.length ∧ i = .int .i64 k ∧ OwnN w.heap.size wr w.heap.size xs.length (part (xorl xs ys) k) ∧ Below w.heap.size w wr) (fun i _ => xs.length - (intOf i).toNat)
  case atStart => exact ⟨0, Nat.zero_le _, rfl, by rw [part_zero, HZ.out]; exact hown, hbel⟩
  case round =>
    clear hown hbel
    obtain ⟨k, hk, rfl, hown, hbel⟩ := hrel
    by_cases hlt' : k < xs.length
    · obtain ⟨b, off, rfl, hca⟩ := HA5.out (by omega)
      obtain ⟨b', off', rfl, hcb⟩ := HB5.out (by omega)
      have n1 := World.block_lt_of_cell? w _ (hca k hlt')
      have n2 := World.block_lt_of_cell? w _ (hcb k hlt')
      have c1 : wr.cell? ⟨b, off + k, none⟩ = some (.int .u8 (gb xs k)) := (hbel.cell n1).trans (hca k hlt')
      have c2 : wr.cell? ⟨b', off' + k, none⟩ = some (.int .u8 (gb ys k)) := (hbel.cell n2).trans (hcb k hlt')
      have lk : (k : Int) < (xs.length : Int) := by omega
      have lk0 : (0 : Int) ≤ (k : Int) := by omega
      have c3 := hown.cell hlt'
      have c4 := hown.free k
      have hx : bits .xor .u8 (gb xs k) (gb ys k) = xr (gb xs k) (gb ys k) := xr_of _ _ (HA.out k) (HB.out k)
      have hown' : OwnN w.heap.size (wr.setCell ⟨w.heap.size, k, none⟩ (.int .u8 (xr (gb xs k) (gb ys k)))) w.heap.size xs.length (part (xorl xs ys) (k + 1)) := by
        have h := hown.set k (gb (xorl xs ys) k)
        rw [part_set _ k (by rw [HZ.out]; exact hlt'), xorl_gb xs ys HL.out k hlt'] at h
        exact h
      clear hca hcb
      go_wp2
      go_region
      all_goals go_wp2
      all_goals
        go_roundw
        case rel => exact ⟨k + 1, by omega, by go_num, hown'.drew 1, (hbel.setCell (Nat.le_refl _) _).drew⟩
        case measure => simp [intOf]; omega
    · have hks : k = xs.length := by omega
      subst hks
      have hown2 : OwnN w.heap.size wr w.heap.size xs.length (xorl xs ys) := by
        have := hown; rw [← HZ.out, part_end, HZ.out] at this; exact this
      go_wp2
      go_ret2
      exact ⟨_, rfl, hown2.byt (xorl_all _ _ HL.out HA.out HB.out), hbel⟩

set_option maxHeartbeats 2000000 in
theorem xor_no (va vb : Value) (xs ys : List Int) (w : World) (ha : Byt w va xs) (hb : Byt w vb ys) (hl : xs.length ≠ ys.length) :
    Calls Try.prog 77 #[va, vb] w fun e w' => e = .returned (.tuple #[.slice none 0 0, .int .i64 2]) ∧ w' = w := by
  obtain ⟨ao, ca, rfl, ha1, ha2, -, -, -⟩ := ha
  obtain ⟨bo, cb, rfl, hb1, hb2, -, -, -⟩ := hb
  have h2 : ((xs.length : Int) != (ys.length : Int)) = true := by simp; omega
  go_enter Try.func77, Try.ntmps77
  go_wp2
  go_ret2
  exact ⟨rfl, rfl⟩

theorem xor_both (va vb : Value) (xs ys : List Int) (w : World) (ha : Byt w va xs) (hb : Byt w vb ys) (hmax : xs.length ≤ 1048576) :
    Calls Try.prog 77 #[va, vb] w fun e w' => ∃ v c, e = .returned (.tuple #[v, .int .i64 c]) ∧ Below w.heap.size w w' ∧ (xs.length = ys.length → c = 0 ∧ Byt w' v (xorl xs ys)) ∧ (xs.length ≠ ys.length → c = 2 ∧ v = .slice none 0 0) := by
  by_cases h : xs.length = ys.length
  · refine (xor_any va vb xs ys w ha hb h hmax).mono ?_
    rintro e w' ⟨v, rfl, hv, hb'⟩
    exact ⟨v, 0, rfl, hb', fun _ => ⟨rfl, hv⟩, fun hn => absurd h hn⟩
  · refine (xor_no va vb xs ys w ha hb h).mono ?_
    rintro e w' ⟨rfl, rfl⟩
    exact ⟨_, _, rfl, Below.refl _ _, fun hh => absurd hh h, fun _ => ⟨rfl, rfl⟩⟩

/-- what is unlike so far, or-ed -/
def unl : List Int → Int := fun zs => zs.foldl (fun u z => bits .or .u8 u z) 0
theorem unl_snoc (zs : List Int) (z : Int) : unl (zs ++ [z]) = bits .or .u8 (unl zs) z := by simp [unl]
theorem or_zero (u z : Int) (hu : 0 ≤ u ∧ u ≤ 255) (hz : 0 ≤ z ∧ z ≤ 255) : (0 ≤ bits .or .u8 u z ∧ bits .or .u8 u z ≤ 255) ∧ (bits .or .u8 u z = 0 ↔ u = 0 ∧ z = 0) := by
  rw [u8_or _ _ hu.1 (by omega) hz.1 (by omega)]
  have hlt := Nat.or_lt_two_pow (n := 8) (show u.toNat < 2 ^ 8 by omega) (show z.toNat < 2 ^ 8 by omega)
  have h0 : (u.toNat ||| z.toNat) = 0 ↔ u.toNat = 0 ∧ z.toNat = 0 := Nat.or_eq_zero_iff
  omega
theorem unl_from (zs : List Int) : ∀ u : Int, (0 ≤ u ∧ u ≤ 255) → (∀ z ∈ zs, 0 ≤ z ∧ z ≤ 255) → (zs.foldl (fun u z => bits .or .u8 u z) u = 0 ↔ u = 0 ∧ ∀ z ∈ zs, z = 0) := by
  induction zs with
  | nil => intro u hu h; simp
  | cons z zs ih =>
    intro u hu h
    have o := or_zero u z hu (h z (by simp))
    rw [List.foldl_cons, ih _ o.1 (fun y hy => h y (by simp [hy])), o.2]
    simp [and_assoc]
theorem unl_zero (zs : List Int) (h : ∀ z ∈ zs, 0 ≤ z ∧ z ≤ 255) : unl zs = 0 ↔ ∀ z ∈ zs, z = 0 := by
  unfold unl; rw [unl_from zs 0 (by decide) h]; simp
theorem mem_gb {xs : List Int} {z : Int} (h : z ∈ xs) : ∃ i, i < xs.length ∧ gb xs i = z := by
  obtain ⟨i, hi, rfl⟩ := List.getElem_of_mem h
  exact ⟨i, hi, by simp [gb, List.getD, hi]⟩
theorem gb_mem {xs : List Int} {i : Nat} (h : i < xs.length) : gb xs i ∈ xs := by
  simp [gb, List.getD, h]
theorem unl_same (xs ys : List Int) (h : xs.length = ys.length) (ha : AllB xs) (hb : AllB ys) : (unl (xorl xs ys) == 0) = decide (xs = ys) := by
  have hall : ∀ z ∈ xorl xs ys, 0 ≤ z ∧ z ≤ 255 := fun z hz => by
    obtain ⟨i, hi, rfl⟩ := mem_gb hz
    exact xorl_all xs ys h ha hb i
  rw [Bool.eq_iff_iff]
  simp only [beq_iff_eq, decide_eq_true_eq]
  rw [unl_zero _ hall]
  constructor
  · intro hz
    refine ext_gb h fun t ht => ?_
    have := hz (gb (xorl xs ys) t) (gb_mem (by rw [xorl_len xs ys h]; exact ht))
    rw [xorl_gb xs ys h t ht] at this
    exact (xr_zero _ _ (ha t).1 (hb t).1).1 this
  · rintro rfl z hz
    obtain ⟨i, hi, rfl⟩ := mem_gb hz
    rw [xorl_len xs xs rfl] at hi
    rw [xorl_gb xs xs rfl i hi]
    exact (xr_zero _ _ (ha i).1 (ha i).1).2 rfl

set_option maxHeartbeats 2000000 in
theorem oSame_any (va vb : Value) (xs ys : List Int) (w : World) (ha : Byt w va xs) (hb : Byt w vb ys) :
    Calls Try.prog 37 #[va, vb] w fun e w' => e = .returned (.bool (decide (xs = ys))) ∧ ∃ n, w' = w.drewN n := by
  obtain ⟨ao, ca, rfl, ha1, ha2, ha3, -, ha5⟩ := ha
  obtain ⟨bo, cb, rfl, hb1, hb2, hb3, -, hb5⟩ := hb
  by_cases hl : xs.length = ys.length
  · have HL : Hid (xs.length = ys.length) := hl
    have HA5 : Hid (0 < xs.length → ∃ b off, ao = some ⟨b, off, none⟩ ∧ ∀ t, t < xs.length → w.cell? ⟨b, off + t, none⟩ = some (.int .u8 (gb xs t))) := ha5
    have HB5 : Hid (0 < xs.length → ∃ b off, bo = some ⟨b, off, none⟩ ∧ ∀ t, t < xs.length → w.cell? ⟨b, off + t, none⟩ = some (.int .u8 (gb ys t))) := by
      rw [hl]; exact hb5
    have HA : Hid (AllB xs) := ha3
    have HB : Hid (AllB ys) := hb3
    rw [← hl] at hb1 ⊢
    clear hb5 ha5 ha3 hb3 hl
    rw [← unl_same xs ys HL.out HA.out HB.out]
    go_enter Try.func37, Try.ntmps37
    go_wp2
    go_loopw [5, 14] (fun u i wr => ∃ k n : Nat, k ≤ xs.length ∧ i = .int .i64 k ∧ u = .int .u8 (unl ((xorl xs ys).take k)) ∧ wr = w.drewN n) (fun _ i _ => xs.length - (intOf i).toNat)
    case atStart => exact ⟨0, 0, Nat.zero_le _, rfl, rfl, rfl⟩
    case round =>
      obtain ⟨k, n, hk, rfl, rfl, rfl⟩ := hrel
      by_cases hlt : k < xs.length
      · obtain ⟨b, off, rfl, hca⟩ := HA5.out (by omega)
        obtain ⟨b', off', rfl, hcb⟩ := HB5.out (by omega)
        have c1 : w.cell? ⟨b, off + k, none⟩ = some (.int .u8 (gb xs k)) := hca k hlt
        have c2 : w.cell? ⟨b', off' + k, none⟩ = some (.int .u8 (gb ys k)) := hcb k hlt
        have lk : (k : Int) < (xs.length : Int) := by omega
        have hx : bits .xor .u8 (gb xs k) (gb ys k) = xr (gb xs k) (gb ys k) := xr_of _ _ (HA.out k) (HB.out k)
        have SN : Hid (unl ((xorl xs ys).take (k + 1)) = bits .or .u8 (unl ((xorl xs ys).take k)) (xr (gb xs k) (gb ys k))) := by
          show _ = _
          rw [xorl_take xs ys HL.out k hlt, unl_snoc]
        clear hca hcb
        go_wp2
        go_quiet (fail)
        go_wp2
        go_roundw
        case rel => exact ⟨k + 1, n + nq, by omega, by go_num, by rw [SN.out], rfl⟩
        case measure => simp [intOf]; omega
      · have hks : k = xs.length := by omega
        have e : Hid ((xorl xs ys).take k = xorl xs ys) := List.take_of_length_le (by rw [xorl_len xs ys HL.out]; omega)
        rw [e.out]
        go_wp2
        go_ret
        exact ⟨rfl, n, rfl⟩
  · have : decide (xs = ys) = false := by simp only [decide_eq_false_iff_not]; intro e; exact hl (by rw [e])
    rw [this]
    have h2 : ((xs.length : Int) != (ys.length : Int)) = true := by simp; omega
    go_enter Try.func37, Try.ntmps37
    go_wp2
    go_ret
    exact ⟨rfl, 0, rfl⟩

def inv (xs : List Int) : List Int := xs.map fun x => xr 255 x
theorem inv_len (xs : List Int) : (inv xs).length = xs.length := by simp [inv]
theorem inv_gb (xs : List Int) (k : Nat) (hk : k < xs.length) : gb (inv xs) k = xr 255 (gb xs k) := by simp [gb, inv, List.getD, hk]
theorem inv_all (xs : List Int) (ha : AllB xs) : AllB (inv xs) := allB_mem fun z hz => by
  obtain ⟨i, hi, rfl⟩ := mem_gb hz
  rw [inv_len] at hi
  rw [inv_gb xs i hi]
  exact xr_bd _ _ (by decide) (ha i)
theorem inv_xorl (xs : List Int) : inv xs = xorl xs (List.replicate xs.length 255) := by
  refine ext_gb (by rw [inv_len, xorl_len _ _ (by simp)]) fun t ht => ?_
  rw [inv_len] at ht
  rw [inv_gb xs t ht, xorl_gb _ _ (by simp) t ht, xr_comm]
  simp [gb, List.getD, ht]

set_option maxHeartbeats 2000000 in
theorem rxor_own (va vb : Value) (xs ys : List Int) (w : World) (ha : Byt w va xs) (hb : Byt w vb ys) (hl : xs.length = ys.length) (hmax : xs.length ≤ 1048576) :
    Calls Try.prog 44 #[va, vb] w fun e w' => ∃ v, e = .returned v ∧ Own w.heap.size w' v (xorl xs ys) ∧ Below w.heap.size w w' := by
  obtain ⟨ao, ca, rfl, ha1, ha2, ha3, -, ha5⟩ := ha
  obtain ⟨bo, cb, rfl, hb1, hb2, hb3, -, hb5⟩ := hb
  have HL : Hid (xs.length = ys.length) := hl
  have HA5 : Hid (0 < xs.length → ∃ b off, ao = some ⟨b, off, none⟩ ∧ ∀ t, t < xs.length → w.cell? ⟨b, off + t, none⟩ = some (.int .u8 (gb xs t))) := ha5
  have HB5 : Hid (0 < xs.length → ∃ b off, bo = some ⟨b, off, none⟩ ∧ ∀ t, t < xs.length → w.cell? ⟨b, off + t, none⟩ = some (.int .u8 (gb ys t))) := by
    rw [hl]; exact hb5
  have HA : Hid (AllB xs) := ha3
  have HB : Hid (AllB ys) := hb3
  rw [← hl] at hb1 ⊢
  clear hb5 ha5 ha3 hb3 hl
  have HZ : Hid ((xorl xs ys).length = xs.length) := xorl_len xs ys HL.out
  go_enter Try.func44, Try.ntmps44
  go_wp2
  go_loopw [5, 6] (fun v i wr => ∃ k : Nat, k ≤ xs.length ∧ i = .int .i64 k ∧ Own w.heap.size wr v ((xorl xs ys).take k) ∧ Below w.heap.size w wr) (fun _ i _ => xs.length - (intOf i).toNat)
  case atStart => exact ⟨0, Nat.zero_le _, rfl, Own.empty w (Nat.le_refl _), (Below.refl _ _).alloc (Nat.le_refl _) _⟩
  case round =>
    obtain ⟨k, hk, rfl, hown, hbel⟩ := hrel
    have hsz := hbel.size
    by_cases hlt' : k < xs.length
    · obtain ⟨b, off, rfl, hca⟩ := HA5.out (by omega)
      obtain ⟨b', off', rfl, hcb⟩ := HB5.out (by omega)
      have n1 := World.block_lt_of_cell? w _ (hca k hlt')
      have n2 := World.block_lt_of_cell? w _ (hcb k hlt')
      have c1 : wr.cell? ⟨b, off + k, none⟩ = some (.int .u8 (gb xs k)) := (hbel.cell n1).trans (hca k hlt')
      have c2 : wr.cell? ⟨b', off' + k, none⟩ = some (.int .u8 (gb ys k)) := (hbel.cell n2).trans (hcb k hlt')
      have lk : (k : Int) < (xs.length : Int) := by omega
      have lk0 : (0 : Int) ≤ (k : Int) := by omega
      have hx : bits .xor .u8 (gb xs k) (gb ys k) = xr (gb xs k) (gb ys k) := xr_of _ _ (HA.out k) (HB.out k)
      have hlen : ((xorl xs ys).take k).length ≤ 1099511627776 := by simp; omega
      have SN : Hid ((xorl xs ys).take (k + 1) = (xorl xs ys).take k ++ [xr (gb xs k) (gb ys k)]) := xorl_take xs ys HL.out k hlt'
      have HLEN : Hid (((xorl xs ys).take k).length ≤ 1099511627776) := hlen
      clear hca hcb hlen
      go_wp2
      go_region_held3 (fun w' => w'.cell? ⟨b, off + k, none⟩ = some (.int .u8 (gb xs k)) ∧ w'.cell? ⟨b', off' + k, none⟩ = some (.int .u8 (gb ys k)))
        (first
          | go_keep
          | (exact ⟨by rw [hbel'.cell n1]; simpa using c1, by rw [hbel'.cell n2]; simpa using c2⟩))
        ((refine step_push1 wr.drew rfl (.tmp 14) (.tmp 24) rfl w.heap.size (by simpa using hsz) _ _ (xr (gb xs k) (gb ys k)) rfl rfl hown HLEN.out ?_; intro v2 w2 hown' hbel'))
      go_wp2
      go_roundw
      case rel => exact ⟨k + 1, by omega, by go_num, by rw [SN.out]; exact hown', hbel.drew.trans hbel'⟩
      case measure => simp [intOf]; omega
    · have hks : k = xs.length := by omega
      have e : Hid ((xorl xs ys).take k = xorl xs ys) := List.take_of_length_le (by rw [HZ.out]; omega)
      rw [e.out] at hown
      go_wp2
      go_ret
      exact ⟨_, rfl, hown, hbel⟩

theorem rxor_any (va vb : Value) (xs ys : List Int) (w : World) (ha : Byt w va xs) (hb : Byt w vb ys) (hl : xs.length = ys.length) (hmax : xs.length ≤ 1048576) :
    Calls Try.prog 44 #[va, vb] w fun e w' => ∃ v, e = .returned v ∧ Byt w' v (xorl xs ys) ∧ Below w.heap.size w w' :=
  (rxor_own va vb xs ys w ha hb hl hmax).mono fun _ _ ⟨v, he, ho, hbl⟩ => ⟨v, he, ho.byt (xorl_all _ _ hl ha.all hb.all), hbl⟩
end Go.Proofs.Ytifepmdhbhdjpaa

/- What fault's bitsOf and Bit, and the reference's Has and Bit answer. No claim of its own. -/
namespace Go.Proofs.Ytifepmdhbhdjpaa.fa
open Go.RowKit
set_option maxRecDepth 20000

theorem makeFn (fn : Fn) (first cap : Array Value) (w : World) : (Instr.makeFunc fn first cap).run Try.prog w = .ok (.func fn first cap) w := rfl
end Go.Proofs.Ytifepmdhbhdjpaa.fa

/- What fault's Bit, and the reference's Has and Bit answer. No claim of its own. -/
namespace Go.Proofs.Ytifepmdhbhdjpaa.fa
open Go.RowKit
set_option maxRecDepth 20000

/-- what a mask says of the bit of any number -/
def bo (m : List Int) (i : Int) : Bool := if i < 0 then false else mk m i.toNat

theorem bit_prog (x : Int) (t : Nat) (h0 : 0 ≤ x) (h1 : x ≤ 255) : (bits .and .u8 (x / 2 ^ t) 1 != 0) = bit x.toNat t := by
  obtain ⟨X, rfl⟩ := Int.eq_ofNat_of_zero_le h0
  have e : ((X : Int) / 2 ^ t) = ((X / 2 ^ t : Nat) : Int) := by rw [Int.natCast_ediv]; norm_cast
  have l : X / 2 ^ t ≤ X := Nat.div_le_self _ _
  rw [e, Int.toNat_natCast]
  have := u8_and_nat (X / 2 ^ t) 1 (by omega) (by omega)
  rw [show ((1 : Nat) : Int) = 1 from rfl] at this
  rw [this, Nat.and_one_is_mod]
  unfold bit
  by_cases q : X / 2 ^ t % 2 = 1
  · rw [q]; decide
  · rw [show X / 2 ^ t % 2 = 0 by omega]; decide
end Go.Proofs.Ytifepmdhbhdjpaa.fa

/- What the reference's Bit and And answer. No claim of its own. -/
namespace Go.Proofs.Ytifepmdhbhdjpaa.fa
open Go.RowKit
set_option maxRecDepth 20000

/-- 'a & b', byte by byte -/
def andl (xs ys : List Int) : List Int := (List.range xs.length).map fun k => (((gb xs k).toNat &&& (gb ys k).toNat : Nat) : Int)
theorem andl_len (xs ys : List Int) : (andl xs ys).length = xs.length := by simp [andl]
theorem andl_gb (xs ys : List Int) (k : Nat) (h : k < xs.length) : gb (andl xs ys) k = (((gb xs k).toNat &&& (gb ys k).toNat : Nat) : Int) := by simp [gb, List.getD, andl, h]
theorem andl_ofb (xs ys : List Int) (hx : AllB xs) : andl xs ys = ofb xs.length fun i => hs xs i && hs ys i := by
  refine ext_gb (by rw [andl_len, ofb_len]) fun k hk => ?_
  rw [andl_len] at hk
  rw [andl_gb xs ys k hk, ofb_gb _ _ k hk, ands_ofb xs ys hx k]
theorem andl_all (xs ys : List Int) (hx : AllB xs) : AllB (andl xs ys) := by rw [andl_ofb xs ys hx]; exact ofb_all _ _
theorem andl_take (xs ys : List Int) (k : Nat) (hk : k < xs.length) : (andl xs ys).take (k + 1) = (andl xs ys).take k ++ [gb (andl xs ys) k] := by
  rw [List.take_succ_eq_append_getElem (by rw [andl_len]; exact hk)]
  simp [gb, List.getD, show k < (andl xs ys).length by rw [andl_len]; exact hk]
end Go.Proofs.Ytifepmdhbhdjpaa.fa

/- What fault's toClear and programmed answer. No claim of its own. -/
namespace Go.Proofs.Ytifepmdhbhdjpaa.fa
open Go.RowKit
set_option maxRecDepth 20000

/-- the bits of byte i that a program is to clear -/
def tc (xs ys : List Int) (i : Nat) : Int := (((gb xs i).toNat &&& (255 - (gb ys i).toNat) : Nat) : Int)
theorem tc_bd (xs ys : List Int) (hx : AllB xs) (i : Nat) : 0 ≤ tc xs ys i ∧ tc xs ys i ≤ 255 := by
  have := hx i
  unfold tc
  have h : (gb xs i).toNat &&& (255 - (gb ys i).toNat) ≤ (gb xs i).toNat := Nat.and_le_left
  omega

/-- the function v tells D of the first n bytes, now and later -/
def Tells (w : World) (v : Value) (D : Nat → Int) (n : Nat) : Prop := ∃ K caps, v = .func (.func K) #[] caps ∧ (∀ (q : Array Value) (w : World), (callFunc K q).run Try.prog w = .ok (.enter K q) w) ∧ (∀ i, 0 ≤ D i ∧ D i ≤ 255) ∧
  ∀ w', Below w.heap.size w w' → ∀ i, i < n → Calls Try.prog K (#[.int .i64 i] ++ caps) w' fun e w'' => e = .returned (.int .u8 (D i)) ∧ ∃ m, w'' = w'.drewN m

/-- what is there behind a program of which D tells what is done -/
def pgl (xs ys : List Int) (D : Nat → Int) : List Int := (List.range xs.length).map fun k => (((gb xs k).toNat &&& (255 - ((tc xs ys k).toNat &&& (D k).toNat)) : Nat) : Int)
theorem pgl_len (xs ys : List Int) (D : Nat → Int) : (pgl xs ys D).length = xs.length := by simp [pgl]
theorem pgl_gb (xs ys : List Int) (D : Nat → Int) (k : Nat) (h : k < xs.length) : gb (pgl xs ys D) k = (((gb xs k).toNat &&& (255 - ((tc xs ys k).toNat &&& (D k).toNat)) : Nat) : Int) := by simp [gb, List.getD, pgl, h]
theorem pgl_all (xs ys : List Int) (D : Nat → Int) (hx : AllB xs) : AllB (pgl xs ys D) := allB_mem fun z hz => by
  obtain ⟨k, hk, rfl⟩ := List.mem_map.1 hz
  have := hx k
  have h : (gb xs k).toNat &&& (255 - ((tc xs ys k).toNat &&& (D k).toNat)) ≤ (gb xs k).toNat := Nat.and_le_left
  omega
/-- zs, filled as far as place k -/
def prt (zs : List Int) (k : Nat) : List Int := zs.take k ++ List.replicate (zs.length - k) 0
theorem prt_zero (zs : List Int) : prt zs 0 = List.replicate zs.length 0 := by simp [prt]
theorem prt_end (zs : List Int) : prt zs zs.length = zs := by simp [prt]
theorem prt_set (zs : List Int) (k : Nat) (h : k < zs.length) : (prt zs k).set k (gb zs k) = prt zs (k + 1) := by
  unfold prt
  obtain ⟨d, hd⟩ : ∃ d, zs.length - k = d + 1 := ⟨zs.length - k - 1, by omega⟩
  have e : zs.length - (k + 1) = d := by omega
  have hm : min k zs.length = k := by omega
  rw [hd, e, List.set_append_right _ _ (by simp; omega), List.take_succ_eq_append_getElem h, List.append_assoc]
  simp only [List.length_take, hm, Nat.sub_self, List.replicate_succ, List.set_cons_zero, gb, List.getD, List.getElem?_eq_getElem h, Option.getD_some, List.cons_append, List.nil_append]
end Go.Proofs.Ytifepmdhbhdjpaa.fa

/- What Len8 answers: how many bits a byte has; which is the last one of it. No claim of its own. -/
namespace Go.Proofs.Ytifepmdhbhdjpaa.fa
open Go.RowKit
set_option maxRecDepth 20000

/-- how many bits a byte has -/
def ln (x : Nat) : Nat := if x < 1 then 0 else if x < 2 then 1 else if x < 4 then 2 else if x < 8 then 3 else if x < 16 then 4 else if x < 32 then 5 else if x < 64 then 6 else if x < 128 then 7 else 8
theorem ln_top : ∀ x, x < 256 → 0 < x → 1 ≤ ln x ∧ ln x ≤ 8 ∧ bit x (ln x - 1) = true ∧ ∀ t, t < 8 → ln x ≤ t → bit x t = false := by decide +kernel
end Go.Proofs.Ytifepmdhbhdjpaa.fa

/- What fault's lastToClear answers: the last bit that is to be cleared. No claim of its own. -/
namespace Go.Proofs.Ytifepmdhbhdjpaa.fa
open Go.RowKit
set_option maxRecDepth 20000

theorem bit_not : ∀ y, y < 256 → ∀ t, t < 8 → bit (255 - y) t = !bit y t := by decide +kernel
theorem bit_and (a b t : Nat) : bit (a &&& b) t = (bit a t && bit b t) := by rw [bit_test, bit_test, bit_test, Nat.testBit_and]
theorem bit_or (a b t : Nat) : bit (a ||| b) t = (bit a t || bit b t) := by rw [bit_test, bit_test, bit_test, Nat.testBit_or]
theorem bit_zero (t : Nat) : bit 0 t = false := by unfold bit; simp
theorem bit_pow : ∀ k, k < 8 → ∀ t, t < 8 → bit (2 ^ k) t = decide (t = k) := by decide +kernel
theorem tc_bit (xs ys : List Int) (hy : AllB ys) (j t : Nat) (ht : t < 8) : bit (tc xs ys j).toNat t = due xs ys (8 * j + t) := by
  have b := hy j
  unfold tc due
  rw [Int.toNat_natCast, bit_and, bit_not _ (by omega) t ht, hs_at xs j t ht, hs_at ys j t ht]
theorem lst_eq (xs ys : List Int) (N p : Nat) (hp : p < N) (hd : due xs ys p = true) (h : ∀ k, p < k → k < N → due xs ys k = false) : lst xs ys N = p + 1 := by
  induction N with
  | zero => omega
  | succ N ih =>
    unfold lst
    by_cases e : p = N
    · subst e; rw [if_pos hd]
    · rw [if_neg (by rw [h N (by omega) (by omega)]; simp), ih (by omega) (fun k h1 h2 => h k h1 (by omega))]
theorem lst_none (xs ys : List Int) (N : Nat) (h : ∀ k, k < N → due xs ys k = false) : lst xs ys N = 0 := by
  induction N with
  | zero => rfl
  | succ N ih =>
    unfold lst
    rw [if_neg (by rw [h N (by omega)]; simp), ih (fun k hk => h k (by omega))]
/-- the last bit that is to be cleared is bit t of byte p, and z is it; or there is none -/
def IsL (xs ys : List Int) (p z : Nat) : Prop := (p = 0 ∧ z = 0 ∧ lst xs ys (8 * xs.length) = 0) ∨ ∃ t, t < 8 ∧ p < xs.length ∧ z = 2 ^ t ∧ lst xs ys (8 * xs.length) = 8 * p + t + 1
theorem isL_some (xs ys : List Int) (hx : AllB xs) (hy : AllB ys) (p x : Nat) (hp : p < xs.length) (hx0 : tc xs ys p = x) (h0 : 0 < x) (h : ∀ q, 8 * (p + 1) ≤ q → q < 8 * xs.length → due xs ys q = false) : IsL xs ys p (2 ^ (ln x - 1)) := by
  have hb := tc_bd xs ys hx p
  obtain ⟨l1, l2, l3, l4⟩ := ln_top x (by omega) h0
  have hbit : ∀ t, t < 8 → due xs ys (8 * p + t) = bit x t := fun t ht => by rw [← tc_bit xs ys hy p t ht, hx0, Int.toNat_natCast]
  refine Or.inr ⟨ln x - 1, by omega, hp, rfl, lst_eq xs ys _ _ (by omega) (by rw [hbit _ (by omega)]; exact l3) fun k h1 h2 => ?_⟩
  by_cases hk : 8 * (p + 1) ≤ k
  · exact h k hk h2
  · have e : k = 8 * p + (k - 8 * p) := by omega
    rw [e, hbit _ (by omega)]
    exact l4 _ (by omega) (by omega)
theorem due_byte (xs ys : List Int) (hy : AllB ys) (p : Nat) (h0 : tc xs ys p = 0) (q : Nat) (h1 : 8 * p ≤ q) (h2 : q < 8 * (p + 1)) : due xs ys q = false := by
  have := tc_bit xs ys hy p (q - 8 * p) (by omega)
  rw [h0, show (0 : Int).toNat = 0 from rfl, bit_zero, show 8 * p + (q - 8 * p) = q by omega] at this
  exact this.symm
theorem pow_ln (x : Nat) (h : 0 < x) (hx : x < 256) : 2 ^ (ln x - 1) ≤ 128 := by
  obtain ⟨l1, l2, -⟩ := ln_top x hx h
  exact Nat.pow_le_pow_right (by omega) (show ln x - 1 ≤ 7 by omega)
end Go.Proofs.Ytifepmdhbhdjpaa.fa

/- What the reference's Program and Erase answer. No claim of its own. -/
namespace Go.Proofs.Ytifepmdhbhdjpaa.fa
open Go.RowKit
set_option maxRecDepth 20000

/-- which bits are there behind a program: of N bits the last one to be cleared is left out, if it fails -/
def prg (xs ys m : List Int) (fl : Bool) (N i : Nat) : Bool := hs xs i && !(due xs ys i && mk m i && !(fl && (i + 1 == lst xs ys N)))
/-- the first k bits are done -/
def upb (F G : Nat → Bool) (k i : Nat) : Bool := if i < k then F i else G i
theorem upb_zero (F G : Nat → Bool) (n : Nat) : ofb n (upb F G 0) = ofb n G := ofb_congr n fun i _ => by unfold upb; rw [if_neg (by omega)]
theorem upb_end (F G : Nat → Bool) (n : Nat) : ofb n (upb F G (8 * n)) = ofb n F := ofb_congr n fun i hi => by unfold upb; rw [if_pos hi]
theorem upb_same (F G : Nat → Bool) (n k : Nat) (h : F k = G k) : ofb n (upb F G (k + 1)) = ofb n (upb F G k) := ofb_congr n fun i _ => by
  unfold upb
  by_cases h1 : i < k
  · rw [if_pos h1, if_pos (by omega)]
  · rw [if_neg h1]
    by_cases h2 : i = k
    · subst h2; rw [if_pos (by omega), h]
    · rw [if_neg (by omega)]
theorem upb_at (F G : Nat → Bool) (k : Nat) : upb F G k k = G k ∧ upb F G (k + 1) k = F k ∧ ∀ i, i ≠ k → upb F G k i = upb F G (k + 1) i := by
  unfold upb
  refine ⟨by rw [if_neg (by omega)], by rw [if_pos (by omega)], fun i hi => ?_⟩
  by_cases h1 : i < k
  · rw [if_pos h1, if_pos (by omega)]
  · rw [if_neg h1, if_neg (by omega)]
theorem bo_nat (m : List Int) (k : Nat) : bo m (k : Int) = mk m k := by unfold bo; rw [if_neg (by omega), Int.toNat_natCast]
theorem lst_succ (xs ys : List Int) (k : Nat) : lst xs ys (k + 1) = if due xs ys k then k + 1 else lst xs ys k := rfl
theorem gb_out (xs : List Int) (k : Nat) (h : xs.length ≤ k) : gb xs k = 0 := by simp [gb, List.getD, h]
end Go.Proofs.Ytifepmdhbhdjpaa.fa

/- A head as a list of bytes: what it tells, what a mark, an erase or a program make of it. No claim of its own. -/
namespace Go.Proofs.Ytifepmdhbhdjpaa.he
open Go.RowKit Go.Proofs.Ytifepmdhbhdjpaa.fa
set_option maxRecDepth 20000

/-- x as s bytes, the greatest first -/
def be (x : Int) (s : Nat) : List Int := (le x s).reverse
theorem be_len (x : Int) (s : Nat) : (be x s).length = s := by simp [be, le_len]
theorem be_all (x : Int) (s : Nat) : AllB (be x s) := allB_reverse (le_all x s)
/-- the head's bytes -/
def hb (k n c l e t : Int) : List Int := [k, n, c, 0] ++ (be l 4 ++ (be e 8 ++ be t 8))
theorem hb_len (k n c l e t : Int) : (hb k n c l e t).length = 24 := by simp [hb, be_len]
/-- a head may be -/
def Rh (k n c : Int) : Prop := 1 ≤ k ∧ k ≤ 4 ∧ 0 ≤ n ∧ n ≤ 255 ∧ 0 ≤ c ∧ c ≤ 255
theorem allB_app {xs ys : List Int} (h : AllB xs) (h' : AllB ys) : AllB (xs ++ ys) := allB_mem fun x hx => by
  rcases List.mem_append.1 hx with q | q
  · obtain ⟨i, hi, rfl⟩ := mem_gb q; exact h i
  · obtain ⟨i, hi, rfl⟩ := mem_gb q; exact h' i
theorem hb_all {k n c : Int} (h : Rh k n c) (l e t : Int) : AllB (hb k n c l e t) := by
  obtain ⟨h1, h2, h3, h4, h5, h6⟩ := h
  refine allB_app (allB_mem fun x hx => ?_) (allB_app (be_all l 4) (allB_app (be_all e 8) (be_all t 8)))
  simp at hx
  rcases hx with rfl | rfl | rfl | rfl <;> omega
/-- bytes l to h of a list -/
def sub (xs : List Int) (l h : Nat) : List Int := (xs.take h).drop l
theorem sub_len (xs : List Int) (l h : Nat) (hh : h ≤ xs.length) : (sub xs l h).length = h - l := by simp [sub]; omega
theorem sub_gb (xs : List Int) (l h t : Nat) (ht : t < h - l) : gb (sub xs l h) t = gb xs (l + t) := gb_cut xs l h t ht
theorem allB_sub {xs : List Int} (h : AllB xs) (l u : Nat) : AllB (sub xs l u) := allB_mem fun x hx => by
  obtain ⟨i, hi, rfl⟩ := mem_gb (List.mem_of_mem_take (List.mem_of_mem_drop hx))
  exact h i
theorem gb_appL (xs ys : List Int) (k : Nat) : gb (xs ++ ys) k = if k < xs.length then gb xs k else gb ys (k - xs.length) := by
  unfold gb
  rw [List.getD_eq_getElem?_getD]
  by_cases h : k < xs.length
  · rw [if_pos h, List.getElem?_append_left h]; rfl
  · rw [if_neg h, List.getElem?_append_right (by omega)]; rfl
theorem sub_of (a b c : List Int) : sub (a ++ (b ++ c)) a.length (a.length + b.length) = b := by
  unfold sub
  rw [← List.append_assoc, List.take_append_of_le_length (by simp), List.take_of_length_le (by simp), List.drop_left]
theorem sub_at (a b c : List Int) (l h : Nat) (hl : a.length = l) (hh : l + b.length = h) : sub (a ++ (b ++ c)) l h = b := by
  subst hl; subst hh; exact sub_of a b c

/-! ### numbers and bytes -/
def n4 (a b c d : Int) : Int := ((a * 256 + b) * 256 + c) * 256 + d
theorem num_of4 (a b c d : Int) (ha : 0 ≤ a ∧ a ≤ 255) (hb : 0 ≤ b ∧ b ≤ 255) (hc : 0 ≤ c ∧ c ≤ 255) (_hd : 0 ≤ d ∧ d ≤ 255) : num (last8 [a, b, c, d]) = n4 a b c d := by
  simp [num, last8, n4]
  omega
theorem num_of8 (a b c d e f g h : Int) (ha : 0 ≤ a ∧ a ≤ 255) (hb : 0 ≤ b ∧ b ≤ 255) (hc : 0 ≤ c ∧ c ≤ 255) (hd : 0 ≤ d ∧ d ≤ 255) (he : 0 ≤ e ∧ e ≤ 255) (hf : 0 ≤ f ∧ f ≤ 255) (hg : 0 ≤ g ∧ g ≤ 255) (_hh : 0 ≤ h ∧ h ≤ 255) : num (last8 [a, b, c, d, e, f, g, h]) = n4 a b c d * 4294967296 + n4 e f g h := by
  simp [num, last8, n4]
  omega
theorem be4 (x : Int) : be x 4 = [x / 256 / 256 / 256 % 256, x / 256 / 256 % 256, x / 256 % 256, x % 256] := rfl
theorem be8 (x : Int) : be x 8 = [x / 256 / 256 / 256 / 256 / 256 / 256 / 256 % 256, x / 256 / 256 / 256 / 256 / 256 / 256 % 256, x / 256 / 256 / 256 / 256 / 256 % 256, x / 256 / 256 / 256 / 256 % 256, x / 256 / 256 / 256 % 256, x / 256 / 256 % 256, x / 256 % 256, x % 256] := rfl
theorem num_be4 (x : Int) (h : 0 ≤ x ∧ x ≤ 4294967295) : num (last8 (be x 4)) = x := by
  rw [be4, num_of4 _ _ _ _ (by omega) (by omega) (by omega) (by omega)]
  unfold n4; omega
theorem num_be8 (x : Int) (h : 0 ≤ x ∧ x ≤ 18446744073709551615) : num (last8 (be x 8)) = x := by
  rw [be8, num_of8 _ _ _ _ _ _ _ _ (by omega) (by omega) (by omega) (by omega) (by omega) (by omega) (by omega) (by omega)]
  unfold n4; omega
theorem list4 {xs : List Int} (h : xs.length = 4) : xs = [gb xs 0, gb xs 1, gb xs 2, gb xs 3] := by
  match xs, h with
  | [a, b, c, d], _ => rfl
theorem list8 {xs : List Int} (h : xs.length = 8) : xs = [gb xs 0, gb xs 1, gb xs 2, gb xs 3, gb xs 4, gb xs 5, gb xs 6, gb xs 7] := by
  match xs, h with
  | [a, b, c, d, e, f, g, h], _ => rfl
theorem be_num4 {xs : List Int} (h : xs.length = 4) (ha : AllB xs) : be (num (last8 xs)) 4 = xs ∧ 0 ≤ num (last8 xs) ∧ num (last8 xs) ≤ 4294967295 := by
  have h0 := ha 0; have h1 := ha 1; have h2 := ha 2; have h3 := ha 3
  rw [list4 h]
  generalize gb xs 0 = a at *; generalize gb xs 1 = b at *; generalize gb xs 2 = c at *; generalize gb xs 3 = d at *
  rw [num_of4 _ _ _ _ h0 h1 h2 h3, be4]
  unfold n4
  refine ⟨?_, by omega, by omega⟩
  have e1 : (((a * 256 + b) * 256 + c) * 256 + d) % 256 = d := by omega
  have e2 : (((a * 256 + b) * 256 + c) * 256 + d) / 256 % 256 = c := by omega
  have e3 : (((a * 256 + b) * 256 + c) * 256 + d) / 256 / 256 % 256 = b := by omega
  have e4 : (((a * 256 + b) * 256 + c) * 256 + d) / 256 / 256 / 256 % 256 = a := by omega
  rw [e1, e2, e3, e4]
theorem be_num8 {xs : List Int} (h : xs.length = 8) (ha : AllB xs) : be (num (last8 xs)) 8 = xs ∧ 0 ≤ num (last8 xs) ∧ num (last8 xs) ≤ 18446744073709551615 := by
  have h0 := ha 0; have h1 := ha 1; have h2 := ha 2; have h3 := ha 3; have h4 := ha 4; have h5 := ha 5; have h6 := ha 6; have h7 := ha 7
  rw [list8 h]
  generalize gb xs 0 = a at *; generalize gb xs 1 = b at *; generalize gb xs 2 = c at *; generalize gb xs 3 = d at *
  generalize gb xs 4 = e at *; generalize gb xs 5 = f at *; generalize gb xs 6 = g at *; generalize gb xs 7 = i at *
  rw [num_of8 _ _ _ _ _ _ _ _ h0 h1 h2 h3 h4 h5 h6 h7, be8]
  unfold n4
  refine ⟨?_, by omega, by omega⟩
  generalize hN : (((a * 256 + b) * 256 + c) * 256 + d) * 4294967296 + (((e * 256 + f) * 256 + g) * 256 + i) = N
  have e1 : N % 256 = i := by omega
  have f1 : N / 256 = (((a * 256 + b) * 256 + c) * 256 + d) * 16777216 + ((e * 256 + f) * 256 + g) := by omega
  have e2 : N / 256 % 256 = g := by omega
  have f2 : N / 256 / 256 = (((a * 256 + b) * 256 + c) * 256 + d) * 65536 + (e * 256 + f) := by omega
  have e3 : N / 256 / 256 % 256 = f := by omega
  have f3 : N / 256 / 256 / 256 = (((a * 256 + b) * 256 + c) * 256 + d) * 256 + e := by omega
  have e4 : N / 256 / 256 / 256 % 256 = e := by omega
  have f4 : N / 256 / 256 / 256 / 256 = ((a * 256 + b) * 256 + c) * 256 + d := by omega
  have e5 : N / 256 / 256 / 256 / 256 % 256 = d := by omega
  have f5 : N / 256 / 256 / 256 / 256 / 256 = (a * 256 + b) * 256 + c := by omega
  have e6 : N / 256 / 256 / 256 / 256 / 256 % 256 = c := by omega
  have f6 : N / 256 / 256 / 256 / 256 / 256 / 256 = a * 256 + b := by omega
  have e7 : N / 256 / 256 / 256 / 256 / 256 / 256 % 256 = b := by omega
  have e8 : N / 256 / 256 / 256 / 256 / 256 / 256 / 256 % 256 = a := by omega
  rw [e1, e2, e3, e4, e5, e6, e7, e8]

/-! ### what an end tells -/
def qk (xs : List Int) : Int := gb xs 0
def qn (xs : List Int) : Int := gb xs 1
def qc (xs : List Int) : Int := gb xs 2
def ql (xs : List Int) : Int := num (last8 (sub xs 4 8))
def qe (xs : List Int) : Int := num (last8 (sub xs 8 16))
def qt (xs : List Int) : Int := num (last8 (sub xs 16 24))
/-- the end tells a head -/
def Tl (xs : List Int) : Prop := inv (sub xs 0 24) = sub xs 24 48 ∧ gb xs 3 = 0 ∧ 1 ≤ gb xs 0 ∧ gb xs 0 ≤ 4
theorem ext4 (xs : List Int) (h : 24 ≤ xs.length) (ha : AllB xs) (h0 : gb xs 3 = 0) : hb (qk xs) (qn xs) (qc xs) (ql xs) (qe xs) (qt xs) = sub xs 0 24 := by
  have a1 := (be_num4 (xs := sub xs 4 8) (by rw [sub_len _ _ _ (by omega)]) (allB_sub ha 4 8)).1
  have a2 := (be_num8 (xs := sub xs 8 16) (by rw [sub_len _ _ _ (by omega)]) (allB_sub ha 8 16)).1
  have a3 := (be_num8 (xs := sub xs 16 24) (by rw [sub_len _ _ _ (by omega)]) (allB_sub ha 16 24)).1
  unfold hb ql qe qt
  rw [a1, a2, a3]
  refine ext_gb (by simp [sub_len, show 8 ≤ xs.length by omega, show 16 ≤ xs.length by omega, h]) fun t ht => ?_
  have l1 := sub_len xs 4 8 (by omega)
  have l2 := sub_len xs 8 16 (by omega)
  have l3 := sub_len xs 16 24 (by omega)
  simp only [List.length_append, List.length_cons, List.length_nil, l1, l2, l3] at ht
  rw [sub_gb xs 0 24 t (by omega), Nat.zero_add, gb_appL]
  split
  · rename_i q
    simp at q
    match t, q with
    | 0, _ => rfl
    | 1, _ => rfl
    | 2, _ => rfl
    | 3, _ => exact h0.symm
  · rename_i q
    simp at q
    simp only [List.length_cons, List.length_nil]
    rw [gb_appL, l1]
    split
    · rw [sub_gb xs 4 8 _ (by omega)]; congr 1; omega
    · rw [gb_appL, l2]
      split
      · rw [sub_gb xs 8 16 _ (by omega)]; congr 1; omega
      · rw [sub_gb xs 16 24 _ (by omega)]; congr 1; omega
theorem hb3 (k n c l e t : Int) : gb (hb k n c l e t) 3 = 0 := rfl
/-- the numbers that the head's bytes tell -/
theorem q_hb {k n c l e t : Int} (ys : List Int) (hl : 0 ≤ l ∧ l ≤ 4294967295) (he : 0 ≤ e ∧ e ≤ 18446744073709551615) (ht : 0 ≤ t ∧ t ≤ 18446744073709551615) :
    qk (hb k n c l e t ++ ys) = k ∧ qn (hb k n c l e t ++ ys) = n ∧ qc (hb k n c l e t ++ ys) = c ∧ ql (hb k n c l e t ++ ys) = l ∧ qe (hb k n c l e t ++ ys) = e ∧ qt (hb k n c l e t ++ ys) = t := by
  have e1 : hb k n c l e t ++ ys = [k, n, c, 0] ++ (be l 4 ++ (be e 8 ++ be t 8 ++ ys)) := by simp [hb]
  have e2 : hb k n c l e t ++ ys = ([k, n, c, 0] ++ be l 4) ++ (be e 8 ++ (be t 8 ++ ys)) := by simp [hb]
  have e3 : hb k n c l e t ++ ys = ([k, n, c, 0] ++ be l 4 ++ be e 8) ++ (be t 8 ++ ys) := by simp [hb]
  refine ⟨rfl, rfl, rfl, ?_, ?_, ?_⟩
  · unfold ql; rw [e1, sub_at _ _ _ 4 8 rfl (by rw [be_len]), num_be4 l hl]
  · unfold qe; rw [e2, sub_at _ _ _ 8 16 (by simp [be_len]) (by rw [be_len]), num_be8 e he]
  · unfold qt; rw [e3, sub_at _ _ _ 16 24 (by simp [be_len]) (by rw [be_len]), num_be8 t ht]

/-- an end: head, complement, tag, mark -/
def hend (hs tag mark : List Int) : List Int := hs ++ (inv hs ++ (tag ++ mark))
theorem hend_len {hs tag mark : List Int} (h : hs.length = 24) (h1 : tag.length = 32) (h2 : mark.length = 8) : (hend hs tag mark).length = 88 := by
  simp [hend, inv_len, h, h1, h2]
theorem hend_all {hs tag mark : List Int} (h : AllB hs) (h1 : AllB tag) (h2 : AllB mark) : AllB (hend hs tag mark) := allB_app h (allB_app (inv_all hs h) (allB_app h1 h2))
theorem hend_sub {hs tag mark : List Int} (h : hs.length = 24) (h1 : tag.length = 32) : sub (hend hs tag mark) 0 24 = hs ∧ sub (hend hs tag mark) 24 48 = inv hs ∧ sub (hend hs tag mark) 48 80 = tag ∧ (hend hs tag mark).drop 80 = mark := by
  refine ⟨?_, ?_, ?_, ?_⟩
  · have : hend hs tag mark = [] ++ (hs ++ (inv hs ++ (tag ++ mark))) := rfl
    rw [this, sub_at _ _ _ 0 24 rfl (by omega)]
  · unfold hend; rw [sub_at _ _ _ 24 48 h (by rw [inv_len]; omega)]
  · have : hend hs tag mark = (hs ++ inv hs) ++ (tag ++ mark) := by simp [hend]
    rw [this, sub_at _ _ _ 48 80 (by rw [List.length_append, inv_len]; omega) (by omega)]
  · have : hend hs tag mark = (hs ++ inv hs ++ tag) ++ mark := by simp [hend]
    rw [this, List.drop_append_of_le_length (by simp [inv_len]; omega), List.drop_of_length_le (by simp [inv_len]; omega), List.nil_append]
/-- a right head's end tells it -/
theorem hend_tl {k n c l e t : Int} (h : Rh k n c) (tag mark : List Int) (h1 : tag.length = 32) : Tl (hend (hb k n c l e t) tag mark) := by
  obtain ⟨s1, s2, -, -⟩ := hend_sub (mark := mark) (hb_len k n c l e t) h1
  refine ⟨by rw [s1, s2], rfl, h.1, h.2.1⟩
/-- what the reference asks of an end -/
theorem tl_ref (xs : List Int) (hx : xs.length = 88) (ha : AllB xs) : Tl xs ↔ Rh (qk xs) (qn xs) (qc xs) ∧ hb (qk xs) (qn xs) (qc xs) (ql xs) (qe xs) (qt xs) ++ inv (hb (qk xs) (qn xs) (qc xs) (ql xs) (qe xs) (qt xs)) = sub xs 0 48 := by
  have l1 := sub_len xs 0 24 (by omega)
  have l2 := sub_len xs 24 48 (by omega)
  have e0 : sub xs 0 48 = sub xs 0 24 ++ sub xs 24 48 := by
    have z := List.take_append_drop 24 (xs.take 48)
    rw [List.take_take, show min 24 48 = 24 by omega] at z
    unfold sub
    rw [List.drop_zero, List.drop_zero]
    exact z.symm
  constructor
  · rintro ⟨h1, h2, h3, h4⟩
    have b1 := ha 1; have b2 := ha 2
    refine ⟨⟨h3, h4, b1.1, b1.2, b2.1, b2.2⟩, ?_⟩
    rw [ext4 xs (by omega) ha h2, h1, e0]
  · rintro ⟨hr, h⟩
    rw [e0] at h
    obtain ⟨h1, h2⟩ := List.append_inj h (by rw [hb_len, l1])
    refine ⟨by rw [← h1, h2], ?_, hr.1, hr.2.1⟩
    have := congrArg (fun l => gb l 3) h1
    simp only [sub_gb xs 0 24 3 (by omega)] at this
    rw [hb3] at this
    exact this.symm

/-! ### bits -/
theorem bit_xr (x t : Nat) (ht : t < 8) : bit (255 ^^^ x) t = !bit x t := by
  rw [bit_test, bit_test, Nat.testBit_xor]
  have : (255 : Nat).testBit t = true := by
    match t, ht with
    | 0, _ => rfl
    | 1, _ => rfl
    | 2, _ => rfl
    | 3, _ => rfl
    | 4, _ => rfl
    | 5, _ => rfl
    | 6, _ => rfl
    | 7, _ => rfl
  rw [this]
  cases x.testBit t <;> rfl
theorem hs_inv (xs : List Int) (i : Nat) (h : i < 8 * xs.length) : hs (inv xs) i = !hs xs i := by
  unfold hs
  rw [inv_gb xs (i / 8) (by omega)]
  unfold xr
  rw [Int.toNat_natCast]
  exact bit_xr _ _ (Nat.mod_lt _ (by omega))
theorem hs_ext {xs ys : List Int} (h : xs.length = ys.length) (hx : AllB xs) (hy : AllB ys) (hb : ∀ i, i < 8 * xs.length → hs xs i = hs ys i) : xs = ys := by
  rw [← ofb_hs ys hy (hs xs) fun i hi => hb i (by omega), ← h]
  exact (ofb_hs xs hx _ fun _ _ => rfl).symm
theorem hs_app (xs ys : List Int) (i : Nat) : hs (xs ++ ys) i = if i < 8 * xs.length then hs xs i else hs ys (i - 8 * xs.length) := by
  unfold hs
  rw [gb_appL]
  by_cases h : i < 8 * xs.length
  · rw [if_pos (by omega), if_pos h]
  · rw [if_neg (by omega), if_neg h, show (i - 8 * xs.length) / 8 = i / 8 - xs.length by omega, show (i - 8 * xs.length) % 8 = i % 8 by omega]
/-- bits that were all set, or all cleared, leave no complement but where nothing changed -/
theorem bits_whole {p y z : List Int} (hp : AllB p) (hy : AllB y) (l1 : y.length = p.length) (he : inv y = z) (hm : (∀ i, i < 8 * (2 * p.length) → hs (p ++ inv p) i = true → hs (y ++ z) i = true) ∨ (∀ i, i < 8 * (2 * p.length) → hs (y ++ z) i = true → hs (p ++ inv p) i = true)) : y = p := by
  refine hs_ext l1 hy hp fun i hi => ?_
  have a1 := hs_app p (inv p) i
  have a2 := hs_app p (inv p) (8 * p.length + i)
  have a3 := hs_app y z i
  have a4 := hs_app y z (8 * y.length + i)
  rw [if_pos (by omega)] at a1 a3
  rw [if_neg (by omega), show 8 * p.length + i - 8 * p.length = i by omega, hs_inv p i (by omega)] at a2
  rw [if_neg (by omega), show 8 * y.length + i - 8 * y.length = i by omega, ← he, hs_inv y i (by omega)] at a4
  rw [l1] at a4
  rw [he] at a4
  rcases hm with hm | hm
  · have m1 := hm i (by omega)
    have m2 := hm (8 * p.length + i) (by omega)
    rw [a1, a3] at m1
    rw [a2, a4] at m2
    cases q : hs p i <;> cases r : hs y i <;> simp [q, r] at m1 m2 ⊢
  · have m1 := hm i (by omega)
    have m2 := hm (8 * p.length + i) (by omega)
    rw [a1, a3] at m1
    rw [a2, a4] at m2
    cases q : hs p i <;> cases r : hs y i <;> simp [q, r] at m1 m2 ⊢

/-! ### a mark -/
def mark (n : Nat) : List Int := List.replicate (n - 8) 255 ++ List.replicate 8 0
theorem mark_len (n : Nat) (h : 8 ≤ n) : (mark n).length = n := by simp [mark]; omega
theorem mark_all (n : Nat) : AllB (mark n) := allB_app (allB_replicate 255 _ (by omega)) (allB_replicate 0 _ (by omega))
theorem and255 (x : Nat) (h : x < 256) : x &&& 255 = x := by
  have : (255 : Nat) = 2 ^ 8 - 1 := by decide
  rw [this, Nat.and_two_pow_sub_one_eq_mod, Nat.mod_eq_of_lt (by omega)]
theorem gb_repl (k t : Nat) (x : Int) (h : t < k) : gb (List.replicate k x) t = x := by simp [gb, List.getD, h]
/-- an end, programmed with a mark -/
theorem and_mark {n : Nat} (h : 88 ≤ n) {hs tag mk : List Int} (h0 : hs.length = 24) (h1 : tag.length = 32) (h2 : mk.length = 8) (a0 : AllB hs) (a1 : AllB tag) (a2 : AllB mk) : andl (hend hs tag mk) ((mark n).drop (n - 88)) = hend hs tag (List.replicate 8 0) := by
  have l0 := hend_len (mark := mk) h0 h1 h2
  have l1 := hend_len (mark := List.replicate 8 0) h0 h1 (by simp)
  have aa := hend_all a0 a1 a2
  refine ext_gb (by rw [andl_len, l0, l1]) fun t ht => ?_
  rw [andl_len, l0] at ht
  rw [andl_gb _ _ t (by omega), gb_drop]
  have e : hend hs tag mk = (hs ++ inv hs ++ tag) ++ mk := by simp [hend]
  have e' : hend hs tag (List.replicate 8 0) = (hs ++ inv hs ++ tag) ++ List.replicate 8 0 := by simp [hend]
  have el : (hs ++ inv hs ++ tag).length = 80 := by simp [inv_len]; omega
  have b := aa t
  unfold mark
  rw [gb_appL, List.length_replicate]
  have z1 : gb (hend hs tag (List.replicate 8 0)) t = if t < 80 then gb (hs ++ inv hs ++ tag) t else 0 := by
    rw [e', gb_appL, el]
    split
    · rfl
    · exact gb_repl _ _ _ (by omega)
  by_cases q : t < 80
  · have z2 : gb (hend hs tag mk) t = gb (hs ++ inv hs ++ tag) t := by rw [e, gb_appL, if_pos (by rw [el]; exact q)]
    rw [if_pos (by omega), gb_repl _ _ _ (by omega), show (255 : Int).toNat = 255 from rfl, and255 _ (by omega), z1, if_pos q, ← z2]
    omega
  · rw [if_neg (by omega), gb_repl _ _ _ (by omega), show (0 : Int).toNat = 0 from rfl, Nat.and_zero, z1, if_neg q]; rfl
end Go.Proofs.Ytifepmdhbhdjpaa.he

/- What head's isKind, isByte, numbersOf, headOf and Less, and the reference's Right answer. No claim of its own. -/
namespace Go.Proofs.Ytifepmdhbhdjpaa.he
open Go.RowKit Go.Proofs.Ytifepmdhbhdjpaa.fa
set_option maxRecDepth 20000

/-- numbers as cells -/
def nv (xs : List Int) : List Value := xs.map (Value.int .u64)
theorem nv_one (xs : List Int) : ∀ v ∈ nv xs, v.oneCell' = true := fun v hv' => by
  simp only [nv, List.mem_map] at hv'
  obtain ⟨x, _, rfl⟩ := hv'
  rfl
end Go.Proofs.Ytifepmdhbhdjpaa.he

/- What the reference's Right and head's Less answer. No claim of its own. -/
namespace Go.Proofs.Ytifepmdhbhdjpaa.he
open Go.RowKit Go.Proofs.Ytifepmdhbhdjpaa.fa
set_option maxRecDepth 20000

set_option maxHeartbeats 4000000 in
theorem less_any (k n c l e t k' n' c' l' e' t' : Int) (w : World) (b : Bool) (hb : b = decide (e < e' ∨ e = e' ∧ t < t')) :
    Calls Try.prog 27 #[.agg (hv k n c l e t).toArray, .agg (hv k' n' c' l' e' t').toArray] w fun x w' => x = .returned (.bool b) ∧ Below w.heap.size w w' := by
  have HB : Hid (b = decide (e < e' ∨ e = e' ∧ t < t')) := hb
  clear hb
  by_cases a1 : e = e'
  · subst a1
    by_cases a2 : t < t'
    · go_enter Try.func27, Try.ntmps27
      have t0 : (0 : Nat) = 0 := rfl
      go_wp2_with (first
        | (have q1 := t1; refine box_lawC _ (hv k' n' c' l' e t') rfl ?_; intro w2 V2 B2 s2; have A2 := HA.out.below B2 s1; have c4 := A2.cell 4 _ rfl; have c5 := A2.cell 5 _ rfl; have d4 := V2.cell 4 _ rfl; have d5 := V2.cell 5 _ rfl; clear A2 V2 t1)
        | (have q0 := t0; refine box_lawC _ (hv k n c l e t) rfl ?_; intro w1 V1 B1 s1; have HA : Hid (Vr w1 w.heap.size (hv k n c l e t)) := V1; clear V1 t0; have t1 : (0 : Nat) = 0 := rfl))
      go_ret
      exact ⟨ret_bool (by rw [HB.out]; simp; omega), B1.trans (B2.mono (by omega))⟩
    · go_enter Try.func27, Try.ntmps27
      have t0 : (0 : Nat) = 0 := rfl
      go_wp2_with (first
        | (have q1 := t1; refine box_lawC _ (hv k' n' c' l' e t') rfl ?_; intro w2 V2 B2 s2; have A2 := HA.out.below B2 s1; have c4 := A2.cell 4 _ rfl; have c5 := A2.cell 5 _ rfl; have d4 := V2.cell 4 _ rfl; have d5 := V2.cell 5 _ rfl; clear A2 V2 t1)
        | (have q0 := t0; refine box_lawC _ (hv k n c l e t) rfl ?_; intro w1 V1 B1 s1; have HA : Hid (Vr w1 w.heap.size (hv k n c l e t)) := V1; clear V1 t0; have t1 : (0 : Nat) = 0 := rfl))
      go_ret
      exact ⟨ret_bool (by rw [HB.out]; simp; omega), B1.trans (B2.mono (by omega))⟩
  · by_cases a2 : e < e'
    · go_enter Try.func27, Try.ntmps27
      have t0 : (0 : Nat) = 0 := rfl
      go_wp2_with (first
        | (have q1 := t1; refine box_lawC _ (hv k' n' c' l' e' t') rfl ?_; intro w2 V2 B2 s2; have A2 := HA.out.below B2 s1; have c4 := A2.cell 4 _ rfl; have c5 := A2.cell 5 _ rfl; have d4 := V2.cell 4 _ rfl; have d5 := V2.cell 5 _ rfl; clear A2 V2 t1)
        | (have q0 := t0; refine box_lawC _ (hv k n c l e t) rfl ?_; intro w1 V1 B1 s1; have HA : Hid (Vr w1 w.heap.size (hv k n c l e t)) := V1; clear V1 t0; have t1 : (0 : Nat) = 0 := rfl))
      go_ret
      exact ⟨ret_bool (by rw [HB.out]; simp; omega), B1.trans (B2.mono (by omega))⟩
    · go_enter Try.func27, Try.ntmps27
      have t0 : (0 : Nat) = 0 := rfl
      go_wp2_with (first
        | (have q1 := t1; refine box_lawC _ (hv k' n' c' l' e' t') rfl ?_; intro w2 V2 B2 s2; have A2 := HA.out.below B2 s1; have c4 := A2.cell 4 _ rfl; have c5 := A2.cell 5 _ rfl; have d4 := V2.cell 4 _ rfl; have d5 := V2.cell 5 _ rfl; clear A2 V2 t1)
        | (have q0 := t0; refine box_lawC _ (hv k n c l e t) rfl ?_; intro w1 V1 B1 s1; have HA : Hid (Vr w1 w.heap.size (hv k n c l e t)) := V1; clear V1 t0; have t1 : (0 : Nat) = 0 := rfl))
      go_ret
      exact ⟨ret_bool (by rw [HB.out]; simp; omega), B1.trans (B2.mono (by omega))⟩
end Go.Proofs.Ytifepmdhbhdjpaa.he

/- What slices.Grow, slices.Concat (of two, and of four) and bytes.Clone answer. No claim of its own. -/
namespace Go.Proofs.Ytifepmdhbhdjpaa.he
open Go.RowKit Go.Proofs.Ytifepmdhbhdjpaa.fa
set_option maxRecDepth 20000

section
variable {ops : Array Oper} {rest : List Oper} {o : Oper} {a : Act} {Q : Exit → Act → World → Prop}
/-- 'append(nil, make([]byte, n)...)': room for n bytes -/
theorem zeros_law (w : World) (hg : o.guard = none) (s x : Operand) (hop : o.op = .call { callee := .builtin .append, args := #[s, x], argTypes := #[22, 3] })
    (L : Int) (n : Nat) (hs : a.eval s = .slice none 0 0) (hx : a.eval x = .int .i64 L) (hL : L = (n : Int)) (hp : 0 < n) (hn : n ≤ 1000000)
    (hK : ∀ cap w', n ≤ cap → cap ≤ 9223372036854775807 → Own w.heap.size w' (.slice (some ⟨w.heap.size, 0, none⟩) 0 cap) [] → Below w.heap.size w w' → wpList Try.prog ops Q rest (a.put o.dst (.slice (some ⟨w.heap.size, 0, none⟩) n cap)) w') :
    wpList Try.prog ops Q (o :: rest) a w := by
  refine wpList_plain hg fun K hK' => ?_
  obtain ⟨i0, hi, hz0, hz1, hz2⟩ := info_parts info_u8
  subst hL
  have hrun := Lib.run_append_nil_zeros (P := Try.prog) w 22 3 o.type 5 i0 (.int .u8 0) .i64 .i64 Try.underlying22 Try.underlying3 hi hz0 n hp (by rw [hz1]; decide) (by omega) (by rw [hz2]; omega)
  have hge := grownCap_ge w n 0 5
  have hcm : grownCap w n 0 5 ≤ maxLen := grownCap_le_maxLen w n 0 5 (by simp only [maxLen]; omega)
  unfold Oper.wp
  simp [execOp, hop, resolve, invoke, builtin, hs, hx, hrun, Result.andThen]
  refine hK' _ _ (hK _ _ hge (by simpa [maxLen] using hcm) ⟨by simp, .inr ⟨w.heap.size, _, _, rfl, Nat.le_refl _, heap_alloc_new w.drew _, Nat.zero_le _, hcm, ?_, by simp⟩⟩ ((Below.refl _ _).drew.alloc (Nat.le_refl _) _))
  have hz : (Value.int .u8 0).cells.size = 1 := rfl
  simp only [Array.size_append, size_zeroCells, hz]
  omega
end

set_option maxHeartbeats 1000000 in
theorem grow_any (n : Nat) (w : World) (hp : 0 < n) (hn : n ≤ 1000000) :
    Calls Try.prog 52 #[.slice none 0 0, .int .i64 (n : Int)] w fun e w' => ∃ v, e = .returned v ∧ Own w.heap.size w' v [] ∧ Below w.heap.size w w' := by
  have k1 : ¬ ((n : Int) < 0) := by omega
  have k2 : IntKind.i64.wrap ((n : Int) - 0) = (n : Int) := by rw [IntKind.wrap_i64]; omega
  have k3 : IntKind.i64.wrap (n : Int) = (n : Int) := by rw [IntKind.wrap_i64]; omega
  have k4 : (n : Int) > 0 := by omega
  go_enter Try.func52, Try.ntmps52
  go_wp2_with (at_builtin; refine zeros_law _ rfl (.tmp 20) (.tmp 21) rfl (n : Int) n rfl rfl rfl hp hn ?_; intro cap w1 c1 c2 o1 B1; have O1 : Hid (Own w.heap.size w1 (.slice (some ⟨w.heap.size, 0, none⟩) 0 cap) []) := o1; have c3 : (0 : Int) ≤ (cap : Int) := (by omega); clear o1)
  go_ret
  exact ⟨_, rfl, O1.out, B1⟩

/-- the first k of some lists, one behind the other -/
def cats (xss : List (List Int)) (k : Nat) : List Int := (xss.take k).flatten
theorem cats_succ (xss : List (List Int)) (k : Nat) (h : k < xss.length) : cats xss (k + 1) = cats xss k ++ xss.getD k [] := by
  unfold cats
  rw [List.take_succ_eq_append_getElem h, List.flatten_append]
  simp [List.getD, h]
theorem cats_len (xss : List (List Int)) (h : ∀ k, k < xss.length → (xss.getD k []).length ≤ 10000) (k : Nat) (hk : k ≤ xss.length) : (cats xss k).length ≤ k * 10000 := by
  induction k with
  | zero => simp [cats]
  | succ k ih =>
    rw [cats_succ xss k (by omega), List.length_append]
    have := ih (by omega)
    have := h k (by omega)
    omega

set_option linter.unusedSimpArgs false in
set_option maxHeartbeats 4000000 in
theorem concat_any (c m : Nat) (u : Nat → Value) (xss : List (List Int)) (w : World) (hm : xss.length = m) (hm8 : m ≤ 8) (hu : ∀ k, k < m → Byt w (u k) (xss.getD k [])) (hl : ∀ k, k < xss.length → (xss.getD k []).length ≤ 10000) (hp : 0 < (cats xss m).length) (hc : ∀ k, k < m → w.cell? ⟨c, k, none⟩ = some (u k)) :
    Calls Try.prog 30 #[.slice (some ⟨c, 0, none⟩) m m] w fun e w' => ∃ r, e = .returned r ∧ Own w.heap.size w' r (cats xss m) ∧ Below w.heap.size w w' := by
  have HG : Hid (∀ w, Calls Try.prog 52 #[.slice none 0 0, .int .i64 (((cats xss m).length : Nat) : Int)] w fun e w' => ∃ v, e = .returned v ∧ Own w.heap.size w' v [] ∧ Below w.heap.size w w') := fun w => grow_any _ w hp (by have := cats_len xss hl m (by omega); omega)
  have HL : Hid (∀ k, k ≤ m → (cats xss k).length ≤ 80000) := fun k hk => by have := cats_len xss hl k (by omega); omega
  have HS : Hid (∀ k, k < m → cats xss (k + 1) = cats xss k ++ xss.getD k []) := fun k hk => cats_succ xss k (by omega)
  have HU : Hid (∀ k, k < m → Byt w (u k) (xss.getD k [])) := hu
  have HX : Hid (∀ k, k < m → (xss.getD k []).length ≤ 10000) := fun k hk => hl k (by omega)
  have HC : Hid (∀ k, k < m → w.cell? ⟨c, k, none⟩ = some (u k)) := hc
  have H0 : Hid (cats xss 0 = []) := rfl
  clear hu hc hl
  obtain ⟨f, hf⟩ : ∃ f : Nat → Nat, f = fun k => (cats xss k).length := ⟨_, rfl⟩
  have HF : Hid (∀ k, (cats xss k).length = f k) := fun k => by rw [hf]
  have hfm : f m = (cats xss m).length := by rw [hf]
  rw [← hfm] at HG hp
  have F0 : Hid (f 0 = 0) := by rw [hf]; rfl
  clear hf hfm
  go_enter Try.func30, Try.ntmps30
  go_wp2
  go_loopw [11, 3] (fun i z wr => ∃ k : Nat, k ≤ m ∧ i = .int .i64 (k : Int) ∧ z = .int .i64 ((f k : Nat) : Int) ∧ wr = w) (fun i _ _ => m - (intOf i).toNat)
  case atStart => exact ⟨0, Nat.zero_le _, rfl, by rw [F0.out]; rfl, rfl⟩
  case round =>
    obtain ⟨k, hk, rfl, rfl, rfl⟩ := hrel
    by_cases hlt : k < m
    · have cc := HC.out k hlt
      have yy := HU.out k hlt
      have lx := HX.out k hlt
      have e1 : f (k + 1) = f k + (xss.getD k []).length := by rw [← HF.out, ← HF.out, HS.out k hlt, List.length_append]
      have l1 : f k ≤ 80000 := by rw [← HF.out]; exact HL.out k hk
      generalize xss.getD k [] = ys at yy lx e1
      obtain ⟨uo, uc, hue, -⟩ := yy
      rw [hue] at cc
      generalize ys.length = a at *
      generalize f k = z at *
      have FK : Hid (f (k + 1) = z + a) := e1
      clear e1 hue
      have q1 : IntKind.i64.wrap ((z : Int) + (a : Int)) = (z : Int) + (a : Int) := by rw [IntKind.wrap_i64]; omega
      have q2 : ¬ ((z : Int) + (a : Int) < 0) := by omega
      go_wp2
      go_roundw
      case rel => exact ⟨k + 1, by omega, by go_num, by rw [FK.out]; rfl, trivial⟩
      case measure => simp [intOf]; omega
    · have hks : k = m := by omega
      subst hks
      obtain ⟨wa, rfl⟩ : ∃ wx, wx = wr := ⟨_, rfl⟩
      go_wp2_with (go_at_call 52; refine (HG.out _).mono ?_; rintro e w1 ⟨v1, rfl, o1, B1⟩; have O1 : Hid (Own wa.heap.size w1 v1 []) := o1; clear o1)
      go_loopw [27, 6] (fun i o wx => ∃ j : Nat, j ≤ k ∧ i = .int .i64 (j : Int) ∧ Own wa.heap.size wx o (cats xss j) ∧ Below wa.heap.size wa wx) (fun i _ _ => k - (intOf i).toNat)
      case atStart => exact ⟨0, Nat.zero_le _, rfl, O1.out, B1⟩
      case round =>
        clear B1 O1
        obtain ⟨j, hj, rfl, o2, B2⟩ := hrel
        by_cases hlj : j < k
        · have cc : wr.cell? ⟨c, j, none⟩ = some (u j) := (B2.cell (World.block_lt_of_cell? _ _ (HC.out j hlj))).trans (HC.out j hlj)
          have yy := (HU.out j hlj).below B2
          have lx := HX.out j hlj
          have lc := HL.out j hj
          have e1 := HS.out j hlj
          generalize xss.getD j [] = ys at yy lx e1
          have YY : Hid (Byt wr (u j) ys) := yy
          have O2 : Hid (Own wa.heap.size wr u6 (cats xss j)) := o2
          have E1 : Hid (cats xss (j + 1) = cats xss j ++ ys) := e1
          have z2 := B2.size
          have LL : Hid (ys.length ≤ 10000 ∧ (cats xss j).length ≤ 80000) := ⟨lx, lc⟩
          generalize u j = uj at *
          clear o2 yy e1 lx lc
          go_wp2_with (at_builtin; refine pushs_law _ rfl (.tmp 31) (.tmp 32) rfl wa.heap.size z2 _ _ (cats xss j) ys rfl rfl O2.out YY.out (by have := LL.out; omega) ?_; intro v3 w3 o3 B3; have O3 : Hid (Own wa.heap.size w3 v3 (cats xss j ++ ys)) := o3; clear o3)
          go_roundw
          case rel => exact ⟨j + 1, by omega, by go_num, by rw [E1.out]; exact O3.out, B2.trans B3⟩
          case measure => simp [intOf]; omega
        · have hjs : j = k := by omega
          subst hjs
          go_wp2
          go_ret
          exact ⟨_, rfl, o2, B2⟩
end Go.Proofs.Ytifepmdhbhdjpaa.he

/- What head's Bytes answers. No claim of its own. -/
namespace Go.Proofs.Ytifepmdhbhdjpaa.he
open Go.RowKit Go.Proofs.Ytifepmdhbhdjpaa.fa
set_option maxRecDepth 20000

/-- 'make([]byte, 0, n)' -/
theorem room_law {ops : Array Oper} {rest : List Oper} {o : Oper} {a : Act} {Q : Exit → Act → World → Prop} (w : World) (hg : o.guard = none) (l c : Operand) (hop : o.op = Op.makeSlice 22 l c) (B : Nat) (hB : B ≤ w.heap.size)
    (n : Nat) (hl : a.eval l = .int .i64 0) (hc : a.eval c = .int .i64 (n : Int)) (hn : n ≤ 1099511627776)
    (hK : ∀ w', Own B w' (.slice (some ⟨w.heap.size, 0, none⟩) 0 n) [] → Below B w w' → w.heap.size < w'.heap.size → wpList Try.prog ops Q rest (a.put o.dst (.slice (some ⟨w.heap.size, 0, none⟩) 0 n)) w') :
    wpList Try.prog ops Q (o :: rest) a w := by
  obtain ⟨i0, hi, hz0, hz1, hz2⟩ := info_parts info_u8
  refine wpList_make_own w hg l c 22 hop B 5 i0 (.int .u8 0) 1 Try.underlying22 hi hz0 hz1 .i64 .i64 (n : Int) n hl hc rfl (by rw [hz2]; omega) (by simp only [maxLen]; omega) hB fun w' h1 h2 => ?_
  exact hK w' h1 ((Below.refl B w).grown h2 hB (fun k hk => by cases hk)) (h1.lt w.heap.size rfl).2

theorem own_low {B : Nat} {w w' : World} {v : Value} {xs : List Int} (h : Own B w v xs) (hb : Below w.heap.size w w') : Own B w' v xs := World.ownsRow.kept h ⟨hb.os, hb.tape, hb.output, hb.size, fun j hj _ => hb.block j hj⟩ (by cases hv : v.ownBlock <;> simp) (row := none)
theorem own_less {w : World} {B B' : Nat} {v : Value} {xs : List Int} (h : Own B w v xs) (hB : B' ≤ B) : Own B' w v xs := by
  obtain ⟨a1, a2⟩ := h
  refine ⟨a1, ?_⟩
  rcases a2 with e1 | ⟨g', c', u', e1, e2, e3⟩
  · exact Or.inl e1
  · exact Or.inr ⟨g', c', u', e1, by omega, e3⟩
/-- the seven numbers' bytes -/
def prts (k n c l e t : Int) : List (List Int) := [[k], [n], [c], [0], be l 4, be e 8, be t 8]
theorem prts_hb (k n c l e t : Int) : cats (prts k n c l e t) 7 = hb k n c l e t := by simp [cats, prts, hb]
theorem be1 (x : Int) (h : 0 ≤ x ∧ x ≤ 255) : (le x (clamp 1 8)).reverse = [x] := by
  show [x % 256] = [x]
  rw [Int.emod_eq_of_lt h.1 (by omega)]
theorem clamp48 : clamp 4 8 = 4 ∧ clamp 8 8 = 8 ∧ clamp 1 8 = 1 := by decide
end Go.Proofs.Ytifepmdhbhdjpaa.he

/- What head's numbersIn answers. No claim of its own. -/
namespace Go.Proofs.Ytifepmdhbhdjpaa.he
open Go.RowKit Go.Proofs.Ytifepmdhbhdjpaa.fa
set_option maxRecDepth 20000

/-- a struct, or an array, is read -/
theorem load_lawC {ops : Array Oper} {rest : List Oper} {a : Act} {Q : Exit → Act → World → Prop} {d : Option Tmp} {x : Operand} {t ty : TypeId} {pos : String} {af : Array Edge} {gd : Option (Nat × Bool)} (w : World) (hw : Region.wanted ⟨d, Op.load t x, ty, pos, af, gd⟩ (yielded ops a.tmps) = true) (cs : List Value) (b p : Nat) (hx : a.eval x = .pointer (some ⟨b, p, none⟩)) (h : w.rangeAt b p cs) (ht : Rowy t cs.length)
    (hK : wpList Try.prog ops Q rest (a.put d (.agg cs.toArray)) w) : wpList Try.prog ops Q (⟨d, Op.load t x, ty, pos, af, gd⟩ :: rest) a w := by
  refine wpList_step fun K hK' => ?_
  rw [if_pos hw]
  unfold Oper.wp execOp
  simp only [hx, Sem.run_bind, Result.andThen_ok, load_cells ht h]
  exact hK' _ _ hK
theorem num_one (xs : List Int) (i : Nat) (h : i < xs.length) (ha : AllB xs) : num (last8 (sub xs i (i + 1))) = gb xs i := by
  have l := sub_len xs i (i + 1) (by omega)
  have g := sub_gb xs i (i + 1) 0 (by omega)
  have b := ha i
  generalize sub xs i (i + 1) = ys at *
  match ys, l with
  | [y], _ =>
    have : y = gb xs i := g
    subst this
    show (0 * 256) % 18446744073709551616 + gb xs i = gb xs i
    omega
  | [], l => simp at l
  | _ :: _ :: _, l => simp at l
end Go.Proofs.Ytifepmdhbhdjpaa.he

/- What the reference's comparison of two lists of bytes answers: whether they are the same. No claim of its own. -/
namespace Go.Proofs.Ytifepmdhbhdjpaa
open Go.RowKit
set_option maxRecDepth 20000

theorem not_same {xs ys : List Int} {k : Nat} (h : gb xs k ≠ gb ys k) : decide (xs = ys) = false := by
  simp only [decide_eq_false_iff_not]; intro e; exact h (by rw [e])

set_option maxHeartbeats 1000000 in
theorem same_any (w : World) (va vb : Value) (xs ys : List Int) (ha : Byt w va xs) (hb : Byt w vb ys) :
    Calls Try.prog 13 #[va, vb] w fun e w' => e = .returned (.bool (decide (xs = ys))) ∧ ∃ n, w' = w.drewN n := by
  obtain ⟨ao, ca, rfl, ha1, ha2, ha3, -, ha5⟩ := ha
  obtain ⟨bo, cb, rfl, hb1, hb2, hb3, -, hb5⟩ := hb
  by_cases hl : xs.length = ys.length
  · have HL : Hid (xs.length = ys.length) := hl
    have HB5 : Hid (0 < xs.length → ∃ b off, bo = some ⟨b, off, none⟩ ∧ ∀ t, t < xs.length → w.cell? ⟨b, off + t, none⟩ = some (.int .u8 (gb ys t))) := by
      rw [hl]; exact hb5
    have HA5 : Hid (0 < xs.length → ∃ b off, ao = some ⟨b, off, none⟩ ∧ ∀ t, t < xs.length → w.cell? ⟨b, off + t, none⟩ = some (.int .u8 (gb xs t))) := ha5
    clear hb5 ha5
    rw [← hl] at hb1 ⊢
    clear hl
    have hm : xs.length ≤ 9223372036854775807 := by omega
    go_enter Try.func13, Try.ntmps13
    go_wp2
    go_loopw [5] (fun i wr => ∃ k n : Nat, k ≤ xs.length ∧ i = .int .i64 k ∧ wr = w.drewN n ∧ Hid (∀ t, t < k → gb xs t = gb ys t)) (fun i _ => xs.length - (intOf i).toNat)
    case atStart => exact ⟨0, 0, Nat.zero_le _, rfl, rfl, fun t ht => by omega⟩
    case round =>
      obtain ⟨k, n, hk, rfl, rfl, heq⟩ := hrel
      by_cases hlt : k < xs.length
      · obtain ⟨b, off, rfl, hca⟩ := HA5.out (by omega)
        obtain ⟨b', off', rfl, hcb⟩ := HB5.out (by omega)
        have c1 : w.cell? ⟨b, off + k, none⟩ = some (.int .u8 (gb xs k)) := hca k hlt
        have c2 : w.cell? ⟨b', off' + k, none⟩ = some (.int .u8 (gb ys k)) := hcb k hlt
        have lk : (k : Int) < (xs.length : Int) := by omega
        clear hca hcb
        go_wp2
        go_quiet (fail)
        go_wp2
        · have hne : (gb xs k != gb ys k) = true := by assumption
          go_ret
          refine ⟨?_, n + nq, World.drewN_drewN ..⟩
          have : decide (xs = ys) = false := not_same (by simpa using hne)
          rw [this]; rfl
        · have hne : (gb xs k != gb ys k) = false := by assumption
          go_roundw
          case rel => exact ⟨k + 1, n + nq, by omega, by go_num, rfl, fun t ht => if h : t < k then heq.out t h else by
            have : t = k := by omega
            subst this; simpa using hne⟩
          case measure => simp [intOf]; omega
      · go_wp2
        go_ret
        refine ⟨?_, n, rfl⟩
        have : decide (xs = ys) = true := decide_eq_true (ext_gb HL.out fun t ht => heq.out t (by omega))
        rw [this]; rfl
  · have : decide (xs = ys) = false := by simp only [decide_eq_false_iff_not]; intro e; exact hl (by rw [e])
    rw [this]
    go_enter Try.func13, Try.ntmps13
    go_wp2
    go_ret
    exact ⟨rfl, 0, rfl⟩
end Go.Proofs.Ytifepmdhbhdjpaa

