/- What octet's Xor, Same and Invert and the reference's Xor and Invert answer. No claim of its own. -/
import Derived.Test.YtpmakkjcpoillaaDoorFill
import Derived.Deep.RegionHeld3
namespace Go.Proofs.YtpmakkjcpoillaaDoor
open Go.RowKit
set_option maxRecDepth 20000

/-- zs, filled as far as place k -/
def part (zs : List Int) (k : Nat) : List Int := zs.take k ++ List.replicate (zs.length - k) 0
theorem part_zero (zs : List Int) : part zs 0 = List.replicate zs.length 0 := by simp [part]
theorem part_end (zs : List Int) : part zs zs.length = zs := by simp [part]
theorem part_set (zs : List Int) (k : Nat) (h : k < zs.length) : (part zs k).set k (gb zs k) = part zs (k + 1) := by
  unfold part
  obtain ⟨d, hd⟩ : ∃ d, zs.length - k = d + 1 := ⟨zs.length - k - 1, by omega⟩
  have e : zs.length - (k + 1) = d := by omega
  have hm : min k zs.length = k := by omega
  rw [hd, e, List.set_append_right _ _ (by simp; omega), List.take_succ_eq_append_getElem h, List.append_assoc]
  simp only [List.length_take, hm, Nat.sub_self, List.replicate_succ, List.set_cons_zero, gb, List.getD, List.getElem?_eq_getElem h, Option.getD_some, List.cons_append, List.nil_append]

/-- two bytes, xored -/
def xr (a b : Int) : Int := ((a.toNat ^^^ b.toNat : Nat) : Int)
theorem xr_of (a b : Int) (ha : 0 ≤ a ∧ a ≤ 255) (hb : 0 ≤ b ∧ b ≤ 255) : bits .xor .u8 a b = xr a b := u8_xor a b ha.1 (by omega) hb.1 (by omega)
theorem xr_bd (a b : Int) (ha : 0 ≤ a ∧ a ≤ 255) (hb : 0 ≤ b ∧ b ≤ 255) : 0 ≤ xr a b ∧ xr a b ≤ 255 := by
  unfold xr
  have := Nat.xor_lt_two_pow (n := 8) (show a.toNat < 2 ^ 8 by omega) (show b.toNat < 2 ^ 8 by omega)
  omega
theorem xr_comm (a b : Int) : xr a b = xr b a := by unfold xr; rw [Nat.xor_comm]
theorem xr_back (a b : Int) (ha : 0 ≤ a) : xr (xr a b) b = a := by
  unfold xr
  rw [Int.toNat_natCast, Nat.xor_assoc, Nat.xor_self, Nat.xor_zero, Int.toNat_of_nonneg ha]
theorem xr_zero (a b : Int) (ha : 0 ≤ a) (hb : 0 ≤ b) : xr a b = 0 ↔ a = b := by
  unfold xr
  constructor
  · intro h
    have h1 : a.toNat ^^^ b.toNat = 0 := by omega
    have h2 : a.toNat = b.toNat := by
      have := congrArg (· ^^^ b.toNat) h1
      simpa [Nat.xor_assoc] using this
    omega
  · rintro rfl; simp

/-- two lists, xored byte by byte -/
def xorl (xs ys : List Int) : List Int := List.zipWith xr xs ys
theorem xorl_len (xs ys : List Int) (h : xs.length = ys.length) : (xorl xs ys).length = xs.length := by simp [xorl]; omega
theorem xorl_gb (xs ys : List Int) (h : xs.length = ys.length) (k : Nat) (hk : k < xs.length) : gb (xorl xs ys) k = xr (gb xs k) (gb ys k) := by
  simp [gb, xorl, List.getD, List.getElem?_zipWith, hk, show k < ys.length by omega]
theorem xorl_all (xs ys : List Int) (h : xs.length = ys.length) (ha : AllB xs) (hb : AllB ys) : AllB (xorl xs ys) := by
  intro k
  by_cases hk : k < xs.length
  · rw [xorl_gb xs ys h k hk]; exact xr_bd _ _ (ha k) (hb k)
  · have : gb (xorl xs ys) k = 0 := by simp only [gb, List.getD, List.getElem?_eq_none (show (xorl xs ys).length ≤ k by rw [xorl_len xs ys h]; omega)]; rfl
    omega
theorem xorl_back (xs ys : List Int) (h : xs.length = ys.length) (ha : AllB xs) : xorl (xorl xs ys) ys = xs := by
  have hl := xorl_len xs ys h
  refine ext_gb (by rw [xorl_len _ _ (by omega)]; omega) fun t ht => ?_
  rw [xorl_len _ _ (by omega)] at ht
  rw [xorl_gb _ _ (by omega) t (by omega), xorl_gb _ _ h t (by omega), xr_back _ _ (ha t).1]
theorem xorl_take (xs ys : List Int) (h : xs.length = ys.length) (k : Nat) (hk : k < xs.length) : (xorl xs ys).take (k + 1) = (xorl xs ys).take k ++ [xr (gb xs k) (gb ys k)] := by
  have hl := xorl_len xs ys h
  rw [List.take_succ_eq_append_getElem (by omega), ← xorl_gb xs ys h k hk]
  simp [gb, List.getD, show k < (xorl xs ys).length by omega]

/-- what is unlike so far, or-ed -/
def unl : List Int → Int := fun zs => zs.foldl (fun u z => bits .or .u8 u z) 0
theorem unl_snoc (zs : List Int) (z : Int) : unl (zs ++ [z]) = bits .or .u8 (unl zs) z := by simp [unl]
theorem or_zero (u z : Int) (hu : 0 ≤ u ∧ u ≤ 255) (hz : 0 ≤ z ∧ z ≤ 255) : (0 ≤ bits .or .u8 u z ∧ bits .or .u8 u z ≤ 255) ∧ (bits .or .u8 u z = 0 ↔ u = 0 ∧ z = 0) := by
  rw [u8_or _ _ hu.1 (by omega) hz.1 (by omega)]
  have hlt := Nat.or_lt_two_pow (n := 8) (show u.toNat < 2 ^ 8 by omega) (show z.toNat < 2 ^ 8 by omega)
  have h0 : (u.toNat ||| z.toNat) = 0 ↔ u.toNat = 0 ∧ z.toNat = 0 := Nat.or_eq_zero_iff
  omega
theorem unl_from (zs : List Int) : ∀ u : Int, (0 ≤ u ∧ u ≤ 255) → (∀ z ∈ zs, 0 ≤ z ∧ z ≤ 255) → (zs.foldl (fun u z => bits .or .u8 u z) u = 0 ↔ u = 0 ∧ ∀ z ∈ zs, z = 0) := by
  induction zs with
  | nil => intro u hu h; simp
  | cons z zs ih =>
    intro u hu h
    have o := or_zero u z hu (h z (by simp))
    rw [List.foldl_cons, ih _ o.1 (fun y hy => h y (by simp [hy])), o.2]
    simp [and_assoc]
theorem unl_zero (zs : List Int) (h : ∀ z ∈ zs, 0 ≤ z ∧ z ≤ 255) : unl zs = 0 ↔ ∀ z ∈ zs, z = 0 := by
  unfold unl; rw [unl_from zs 0 (by decide) h]; simp
theorem mem_gb {xs : List Int} {z : Int} (h : z ∈ xs) : ∃ i, i < xs.length ∧ gb xs i = z := by
  obtain ⟨i, hi, rfl⟩ := List.getElem_of_mem h
  exact ⟨i, hi, by simp [gb, List.getD, hi]⟩
theorem gb_mem {xs : List Int} {i : Nat} (h : i < xs.length) : gb xs i ∈ xs := by
  simp [gb, List.getD, h]
theorem unl_same (xs ys : List Int) (h : xs.length = ys.length) (ha : AllB xs) (hb : AllB ys) : (unl (xorl xs ys) == 0) = decide (xs = ys) := by
  have hall : ∀ z ∈ xorl xs ys, 0 ≤ z ∧ z ≤ 255 := fun z hz => by
    obtain ⟨i, hi, rfl⟩ := mem_gb hz
    exact xorl_all xs ys h ha hb i
  rw [Bool.eq_iff_iff]
  simp only [beq_iff_eq, decide_eq_true_eq]
  rw [unl_zero _ hall]
  constructor
  · intro hz
    refine ext_gb h fun t ht => ?_
    have := hz (gb (xorl xs ys) t) (gb_mem (by rw [xorl_len xs ys h]; exact ht))
    rw [xorl_gb xs ys h t ht] at this
    exact (xr_zero _ _ (ha t).1 (hb t).1).1 this
  · rintro rfl z hz
    obtain ⟨i, hi, rfl⟩ := mem_gb hz
    rw [xorl_len xs xs rfl] at hi
    rw [xorl_gb xs xs rfl i hi]
    exact (xr_zero _ _ (ha i).1 (ha i).1).2 rfl

set_option maxHeartbeats 2000000 in
theorem oSame_any (va vb : Value) (xs ys : List Int) (w : World) (ha : Byt w va xs) (hb : Byt w vb ys) :
    Calls Tryd.prog 52 #[va, vb] w fun e w' => e = .returned (.bool (decide (xs = ys))) ∧ ∃ n, w' = w.drewN n := by
  obtain ⟨ao, ca, rfl, ha1, ha2, ha3, -, ha5⟩ := ha
  obtain ⟨bo, cb, rfl, hb1, hb2, hb3, -, hb5⟩ := hb
  by_cases hl : xs.length = ys.length
  · have HL : Hid (xs.length = ys.length) := hl
    have HA5 : Hid (0 < xs.length → ∃ b off, ao = some ⟨b, off, none⟩ ∧ ∀ t, t < xs.length → w.cell? ⟨b, off + t, none⟩ = some (.int .u8 (gb xs t))) := ha5
    have HB5 : Hid (0 < xs.length → ∃ b off, bo = some ⟨b, off, none⟩ ∧ ∀ t, t < xs.length → w.cell? ⟨b, off + t, none⟩ = some (.int .u8 (gb ys t))) := by
      rw [hl]; exact hb5
    have HA : Hid (AllB xs) := ha3
    have HB : Hid (AllB ys) := hb3
    rw [← hl] at hb1 ⊢
    clear hb5 ha5 ha3 hb3 hl
    rw [← unl_same xs ys HL.out HA.out HB.out]
    go_enter Tryd.func52, Tryd.ntmps52
    go_wp2
    go_loopw [5, 14] (fun u i wr => ∃ k n : Nat, k ≤ xs.length ∧ i = .int .i64 k ∧ u = .int .u8 (unl ((xorl xs ys).take k)) ∧ wr = w.drewN n) (fun _ i _ => xs.length - (intOf i).toNat)
    case atStart => exact ⟨0, 0, Nat.zero_le _, rfl, rfl, rfl⟩
    case round =>
      obtain ⟨k, n, hk, rfl, rfl, rfl⟩ := hrel
      by_cases hlt : k < xs.length
      · obtain ⟨b, off, rfl, hca⟩ := HA5.out (by omega)
        obtain ⟨b', off', rfl, hcb⟩ := HB5.out (by omega)
        have c1 : w.cell? ⟨b, off + k, none⟩ = some (.int .u8 (gb xs k)) := hca k hlt
        have c2 : w.cell? ⟨b', off' + k, none⟩ = some (.int .u8 (gb ys k)) := hcb k hlt
        have lk : (k : Int) < (xs.length : Int) := by omega
        have hx : bits .xor .u8 (gb xs k) (gb ys k) = xr (gb xs k) (gb ys k) := xr_of _ _ (HA.out k) (HB.out k)
        have SN : Hid (unl ((xorl xs ys).take (k + 1)) = bits .or .u8 (unl ((xorl xs ys).take k)) (xr (gb xs k) (gb ys k))) := by
          show _ = _
          rw [xorl_take xs ys HL.out k hlt, unl_snoc]
        clear hca hcb
        go_wp2
        go_quiet (fail)
        go_wp2
        go_roundw
        case rel => exact ⟨k + 1, n + nq, by omega, by go_num, by rw [SN.out], rfl⟩
        case measure => simp [intOf]; omega
      · have hks : k = xs.length := by omega
        have e : Hid ((xorl xs ys).take k = xorl xs ys) := List.take_of_length_le (by rw [xorl_len xs ys HL.out]; omega)
        rw [e.out]
        go_wp2
        go_ret
        exact ⟨rfl, n, rfl⟩
  · have : decide (xs = ys) = false := by simp only [decide_eq_false_iff_not]; intro e; exact hl (by rw [e])
    rw [this]
    have h2 : ((xs.length : Int) != (ys.length : Int)) = true := by simp; omega
    go_enter Tryd.func52, Tryd.ntmps52
    go_wp2
    go_ret
    exact ⟨rfl, 0, rfl⟩

def inv (xs : List Int) : List Int := xs.map fun x => xr 255 x
theorem inv_len (xs : List Int) : (inv xs).length = xs.length := by simp [inv]
theorem inv_gb (xs : List Int) (k : Nat) (hk : k < xs.length) : gb (inv xs) k = xr 255 (gb xs k) := by simp [gb, inv, List.getD, hk]
theorem inv_all (xs : List Int) (ha : AllB xs) : AllB (inv xs) := allB_mem fun z hz => by
  obtain ⟨i, hi, rfl⟩ := mem_gb hz
  rw [inv_len] at hi
  rw [inv_gb xs i hi]
  exact xr_bd _ _ (by decide) (ha i)
theorem inv_xorl (xs : List Int) : inv xs = xorl xs (List.replicate xs.length 255) := by
  refine ext_gb (by rw [inv_len, xorl_len _ _ (by simp)]) fun t ht => ?_
  rw [inv_len] at ht
  rw [inv_gb xs t ht, xorl_gb _ _ (by simp) t ht, xr_comm]
  simp [gb, List.getD, ht]

set_option maxHeartbeats 2000000 in
theorem invert_any (va : Value) (xs : List Int) (w : World) (ha : Byt w va xs) (hmax : xs.length ≤ 1048576) :
    Calls Tryd.prog 45 #[va] w fun e w' => ∃ v, e = .returned v ∧ Byt w' v (inv xs) ∧ Below w.heap.size w w' := by
  obtain ⟨ao, ca, rfl, ha1, ha2, ha3, -, ha5⟩ := ha
  have HA5 : Hid (0 < xs.length → ∃ b off, ao = some ⟨b, off, none⟩ ∧ ∀ t, t < xs.length → w.cell? ⟨b, off + t, none⟩ = some (.int .u8 (gb xs t))) := ha5
  have HA : Hid (AllB xs) := ha3
  clear ha5 ha3
  have HZ : Hid ((inv xs).length = xs.length) := inv_len xs
  go_enter Tryd.func45, Tryd.ntmps45
  go_wp2_with (at_make; refine make_law _ rfl (.tmp 6) (.tmp 6) rfl w.heap.size (Nat.le_refl _) _ xs.length rfl rfl rfl (by omega) ?_; intro w1 hown hbel hlt)
  go_loopw [10] (fun i wr => ∃ k : Nat, k ≤ xs.length ∧ i = .int .i64 k ∧ OwnN w.heap.size wr w.heap.size xs.length (part (inv xs) k) ∧ Below w.heap.size w wr) (fun i _ => xs.length - (intOf i).toNat)
  case atStart => exact ⟨0, Nat.zero_le _, rfl, by rw [part_zero, HZ.out]; exact hown, hbel⟩
  case round =>
    clear hown hbel
    obtain ⟨k, hk, rfl, hown, hbel⟩ := hrel
    by_cases hlt' : k < xs.length
    · obtain ⟨b, off, rfl, hca⟩ := HA5.out (by omega)
      have n1 := World.block_lt_of_cell? w _ (hca k hlt')
      have c1 : wr.cell? ⟨b, off + k, none⟩ = some (.int .u8 (gb xs k)) := (hbel.cell n1).trans (hca k hlt')
      have c3 := hown.cell hlt'
      have c4 := hown.free k
      have HX : Hid (bits .xor .u8 (if IntKind.u8.signed = true then -1 else IntKind.u8.max) (gb xs k) = xr 255 (gb xs k)) := xr_of 255 _ (by decide) (HA.out k)
      have hown' : OwnN w.heap.size (wr.setCell ⟨w.heap.size, k, none⟩ (.int .u8 (xr 255 (gb xs k)))) w.heap.size xs.length (part (inv xs) (k + 1)) := by
        have h := hown.set k (gb (inv xs) k)
        rw [part_set _ k (by rw [HZ.out]; exact hlt'), inv_gb xs k hlt'] at h
        exact h
      clear hca
      go_wp2
      go_roundw
      case rel => exact ⟨k + 1, by omega, by go_num, by rw [HX.out]; exact hown', hbel.setCell (Nat.le_refl _) _⟩
      case measure => simp [intOf]; omega
    · have hks : k = xs.length := by omega
      subst hks
      have hown2 : OwnN w.heap.size wr w.heap.size xs.length (inv xs) := by
        have := hown; rw [← HZ.out, part_end, HZ.out] at this; exact this
      go_wp2
      go_ret
      exact ⟨_, rfl, hown2.byt (inv_all _ HA.out), hbel⟩

set_option maxHeartbeats 2000000 in
theorem rxor_own (va vb : Value) (xs ys : List Int) (w : World) (ha : Byt w va xs) (hb : Byt w vb ys) (hl : xs.length = ys.length) (hmax : xs.length ≤ 1048576) :
    Calls Tryd.prog 61 #[va, vb] w fun e w' => ∃ v, e = .returned v ∧ Own w.heap.size w' v (xorl xs ys) ∧ Below w.heap.size w w' := by
  obtain ⟨ao, ca, rfl, ha1, ha2, ha3, -, ha5⟩ := ha
  obtain ⟨bo, cb, rfl, hb1, hb2, hb3, -, hb5⟩ := hb
  have HL : Hid (xs.length = ys.length) := hl
  have HA5 : Hid (0 < xs.length → ∃ b off, ao = some ⟨b, off, none⟩ ∧ ∀ t, t < xs.length → w.cell? ⟨b, off + t, none⟩ = some (.int .u8 (gb xs t))) := ha5
  have HB5 : Hid (0 < xs.length → ∃ b off, bo = some ⟨b, off, none⟩ ∧ ∀ t, t < xs.length → w.cell? ⟨b, off + t, none⟩ = some (.int .u8 (gb ys t))) := by
    rw [hl]; exact hb5
  have HA : Hid (AllB xs) := ha3
  have HB : Hid (AllB ys) := hb3
  rw [← hl] at hb1 ⊢
  clear hb5 ha5 ha3 hb3 hl
  have HZ : Hid ((xorl xs ys).length = xs.length) := xorl_len xs ys HL.out
  go_enter Tryd.func61, Tryd.ntmps61
  go_wp2
  go_loopw [5, 6] (fun v i wr => ∃ k : Nat, k ≤ xs.length ∧ i = .int .i64 k ∧ Own w.heap.size wr v ((xorl xs ys).take k) ∧ Below w.heap.size w wr) (fun _ i _ => xs.length - (intOf i).toNat)
  case atStart => exact ⟨0, Nat.zero_le _, rfl, Own.empty w (Nat.le_refl _), (Below.refl _ _).alloc (Nat.le_refl _) _⟩
  case round =>
    obtain ⟨k, hk, rfl, hown, hbel⟩ := hrel
    have hsz := hbel.size
    by_cases hlt' : k < xs.length
    · obtain ⟨b, off, rfl, hca⟩ := HA5.out (by omega)
      obtain ⟨b', off', rfl, hcb⟩ := HB5.out (by omega)
      have n1 := World.block_lt_of_cell? w _ (hca k hlt')
      have n2 := World.block_lt_of_cell? w _ (hcb k hlt')
      have c1 : wr.cell? ⟨b, off + k, none⟩ = some (.int .u8 (gb xs k)) := (hbel.cell n1).trans (hca k hlt')
      have c2 : wr.cell? ⟨b', off' + k, none⟩ = some (.int .u8 (gb ys k)) := (hbel.cell n2).trans (hcb k hlt')
      have lk : (k : Int) < (xs.length : Int) := by omega
      have lk0 : (0 : Int) ≤ (k : Int) := by omega
      have hx : bits .xor .u8 (gb xs k) (gb ys k) = xr (gb xs k) (gb ys k) := xr_of _ _ (HA.out k) (HB.out k)
      have hlen : ((xorl xs ys).take k).length ≤ 1099511627776 := by simp; omega
      have SN : Hid ((xorl xs ys).take (k + 1) = (xorl xs ys).take k ++ [xr (gb xs k) (gb ys k)]) := xorl_take xs ys HL.out k hlt'
      have HLEN : Hid (((xorl xs ys).take k).length ≤ 1099511627776) := hlen
      clear hca hcb hlen
      go_wp2
      go_region_held3 (fun w' => w'.cell? ⟨b, off + k, none⟩ = some (.int .u8 (gb xs k)) ∧ w'.cell? ⟨b', off' + k, none⟩ = some (.int .u8 (gb ys k)))
        (first
          | go_keep
          | (exact ⟨by rw [hbel'.cell n1]; simpa using c1, by rw [hbel'.cell n2]; simpa using c2⟩))
        ((refine step_push1 wr.drew rfl (.tmp 14) (.tmp 24) rfl w.heap.size (by simpa using hsz) _ _ (xr (gb xs k) (gb ys k)) rfl rfl hown HLEN.out ?_; intro v2 w2 hown' hbel'))
      go_wp2
      go_roundw
      case rel => exact ⟨k + 1, by omega, by go_num, by rw [SN.out]; exact hown', hbel.drew.trans hbel'⟩
      case measure => simp [intOf]; omega
    · have hks : k = xs.length := by omega
      have e : Hid ((xorl xs ys).take k = xorl xs ys) := List.take_of_length_le (by rw [HZ.out]; omega)
      rw [e.out] at hown
      go_wp2
      go_ret
      exact ⟨_, rfl, hown, hbel⟩

theorem rxor_any (va vb : Value) (xs ys : List Int) (w : World) (ha : Byt w va xs) (hb : Byt w vb ys) (hl : xs.length = ys.length) (hmax : xs.length ≤ 1048576) :
    Calls Tryd.prog 61 #[va, vb] w fun e w' => ∃ v, e = .returned v ∧ Byt w' v (xorl xs ys) ∧ Below w.heap.size w w' :=
  (rxor_own va vb xs ys w ha hb hl hmax).mono fun _ _ ⟨v, he, ho, hbl⟩ => ⟨v, he, ho.byt (xorl_all _ _ hl ha.all hb.all), hbl⟩

set_option maxHeartbeats 2000000 in
theorem rinvert_any (va : Value) (xs : List Int) (w : World) (ha : Byt w va xs) (hmax : xs.length ≤ 65536) :
    Calls Tryd.prog 47 #[va] w fun e w' => ∃ v, e = .returned v ∧ Byt w' v (inv xs) ∧ Below w.heap.size w w' := by
  have HA := ha
  obtain ⟨ao, ca, rfl, ha1, ha2, -, -, -⟩ := ha
  have e : clamp (xs.length : Int) 65536 = xs.length := by unfold clamp; omega
  have E : Hid (clamp (xs.length : Int) 65536 = xs.length) := e
  clear e
  rw [inv_xorl]
  go_enter Tryd.func47, Tryd.ntmps47
  go_wp2_with (first
    | (go_at_call 18; refine (rfill_any 255 _ _ (by decide)).mono ?_; rintro e w1 ⟨v1, rfl, hv1, hb1⟩; rw [E.out] at hv1; have hz1 := hb1.size)
    | (go_at_call 61; refine (rxor_any _ _ xs _ _ (HA.below hb1) hv1 (by simp) (by omega)).mono ?_; rintro e w2 ⟨v2, rfl, hv2, hb2⟩))
  go_ret
  exact ⟨_, rfl, hv2, hb1.trans (hb2.mono hz1)⟩
end Go.Proofs.YtpmakkjcpoillaaDoor
