/- Parts of the proof: what KeyboxNil reaches. No claim of its own. -/
import Derived.Deep.RegionHeld3
import Derived.WalkKit
import Derived.WalkSmall
import Derived.ProofKit
import Derived.OpenShut
import Derived.BigQuiet
import Derived.Deep.QuietTactic
import Derived.Deep.WholeRow
import Derived.Deep.MidRow
import Derived.Laws.StructEq
import Derived.Laws.AppendOwnNone
import Derived.Test.YtakibiigcdgohaaGreatDoorA00
import Derived.Test.YtakibiigcdgohaaGreatDoorA01
import Derived.Test.YtakibiigcdgohaaGreatDoorA02
import Derived.Test.YtakibiigcdgohaaGreatDoorA03
import Derived.Test.YtakibiigcdgohaaGreatDoorA09
namespace Go.Proofs.YtakibiigcdgohaaGreatDoor
open Go.RowKit
set_option maxRecDepth 20000
def part (zs : List Int) (k : Nat) : List Int := zs.take k ++ List.replicate (zs.length - k) 0
theorem part_zero (zs : List Int) : part zs 0 = List.replicate zs.length 0 := by simp [part]
theorem part_end (zs : List Int) : part zs zs.length = zs := by simp [part]
theorem part_set (zs : List Int) (k : Nat) (h : k < zs.length) : (part zs k).set k (gb zs k) = part zs (k + 1) := by
  unfold part
  obtain ⟨d, hd⟩ : ∃ d, zs.length - k = d + 1 := ⟨zs.length - k - 1, by omega⟩
  have e : zs.length - (k + 1) = d := by omega
  have hm : min k zs.length = k := by omega
  rw [hd, e, List.set_append_right _ _ (by simp; omega), List.take_succ_eq_append_getElem h, List.append_assoc]
  simp only [List.length_take, hm, Nat.sub_self, List.replicate_succ, List.set_cons_zero, gb, List.getD, List.getElem?_eq_getElem h, Option.getD_some, List.cons_append, List.nil_append]
def xr (a b : Int) : Int := ((a.toNat ^^^ b.toNat : Nat) : Int)
theorem xr_of (a b : Int) (ha : 0 ≤ a ∧ a ≤ 255) (hb : 0 ≤ b ∧ b ≤ 255) : bits .xor .u8 a b = xr a b := u8_xor a b ha.1 (by omega) hb.1 (by omega)
theorem xr_bd (a b : Int) (ha : 0 ≤ a ∧ a ≤ 255) (hb : 0 ≤ b ∧ b ≤ 255) : 0 ≤ xr a b ∧ xr a b ≤ 255 := by
  unfold xr
  have := Nat.xor_lt_two_pow (n := 8) (show a.toNat < 2 ^ 8 by omega) (show b.toNat < 2 ^ 8 by omega)
  omega
theorem xr_comm (a b : Int) : xr a b = xr b a := by unfold xr; rw [Nat.xor_comm]
theorem xr_zero (a b : Int) (ha : 0 ≤ a) (hb : 0 ≤ b) : xr a b = 0 ↔ a = b := by
  unfold xr
  constructor
  · intro h
    have h1 : a.toNat ^^^ b.toNat = 0 := by omega
    have h2 : a.toNat = b.toNat := by
      have := congrArg (· ^^^ b.toNat) h1
      simpa [Nat.xor_assoc] using this
    omega
  · rintro rfl; simp
def xorl (xs ys : List Int) : List Int := List.zipWith xr xs ys
theorem xorl_len (xs ys : List Int) (h : xs.length = ys.length) : (xorl xs ys).length = xs.length := by simp [xorl]; omega
theorem xorl_gb (xs ys : List Int) (h : xs.length = ys.length) (k : Nat) (hk : k < xs.length) : gb (xorl xs ys) k = xr (gb xs k) (gb ys k) := by
  simp [gb, xorl, List.getD, List.getElem?_zipWith, hk, show k < ys.length by omega]
theorem xorl_all (xs ys : List Int) (h : xs.length = ys.length) (ha : AllB xs) (hb : AllB ys) : AllB (xorl xs ys) := by
  intro k
  by_cases hk : k < xs.length
  · rw [xorl_gb xs ys h k hk]; exact xr_bd _ _ (ha k) (hb k)
  · have : gb (xorl xs ys) k = 0 := by simp only [gb, List.getD, List.getElem?_eq_none (show (xorl xs ys).length ≤ k by rw [xorl_len xs ys h]; omega)]; rfl
    omega
theorem xorl_take (xs ys : List Int) (h : xs.length = ys.length) (k : Nat) (hk : k < xs.length) : (xorl xs ys).take (k + 1) = (xorl xs ys).take k ++ [xr (gb xs k) (gb ys k)] := by
  have hl := xorl_len xs ys h
  rw [List.take_succ_eq_append_getElem (by omega), ← xorl_gb xs ys h k hk]
  simp [gb, List.getD, show k < (xorl xs ys).length by omega]
def unl : List Int → Int := fun zs => zs.foldl (fun u z => bits .or .u8 u z) 0
theorem unl_snoc (zs : List Int) (z : Int) : unl (zs ++ [z]) = bits .or .u8 (unl zs) z := by simp [unl]
theorem or_zero (u z : Int) (hu : 0 ≤ u ∧ u ≤ 255) (hz : 0 ≤ z ∧ z ≤ 255) : (0 ≤ bits .or .u8 u z ∧ bits .or .u8 u z ≤ 255) ∧ (bits .or .u8 u z = 0 ↔ u = 0 ∧ z = 0) := by
  rw [u8_or _ _ hu.1 (by omega) hz.1 (by omega)]
  have hlt := Nat.or_lt_two_pow (n := 8) (show u.toNat < 2 ^ 8 by omega) (show z.toNat < 2 ^ 8 by omega)
  have h0 : (u.toNat ||| z.toNat) = 0 ↔ u.toNat = 0 ∧ z.toNat = 0 := Nat.or_eq_zero_iff
  omega
theorem unl_from (zs : List Int) : ∀ u : Int, (0 ≤ u ∧ u ≤ 255) → (∀ z ∈ zs, 0 ≤ z ∧ z ≤ 255) → (zs.foldl (fun u z => bits .or .u8 u z) u = 0 ↔ u = 0 ∧ ∀ z ∈ zs, z = 0) := by
  induction zs with
  | nil => intro u hu h; simp
  | cons z zs ih =>
    intro u hu h
    have o := or_zero u z hu (h z (by simp))
    rw [List.foldl_cons, ih _ o.1 (fun y hy => h y (by simp [hy])), o.2]
    simp [and_assoc]
theorem unl_zero (zs : List Int) (h : ∀ z ∈ zs, 0 ≤ z ∧ z ≤ 255) : unl zs = 0 ↔ ∀ z ∈ zs, z = 0 := by
  unfold unl; rw [unl_from zs 0 (by decide) h]; simp
theorem mem_gb {xs : List Int} {z : Int} (h : z ∈ xs) : ∃ i, i < xs.length ∧ gb xs i = z := by
  obtain ⟨i, hi, rfl⟩ := List.getElem_of_mem h
  exact ⟨i, hi, by simp [gb, List.getD, hi]⟩
theorem gb_mem {xs : List Int} {i : Nat} (h : i < xs.length) : gb xs i ∈ xs := by
  simp [gb, List.getD, h]
theorem unl_same (xs ys : List Int) (h : xs.length = ys.length) (ha : AllB xs) (hb : AllB ys) : (unl (xorl xs ys) == 0) = decide (xs = ys) := by
  have hall : ∀ z ∈ xorl xs ys, 0 ≤ z ∧ z ≤ 255 := fun z hz => by
    obtain ⟨i, hi, rfl⟩ := mem_gb hz
    exact xorl_all xs ys h ha hb i
  rw [Bool.eq_iff_iff]
  simp only [beq_iff_eq, decide_eq_true_eq]
  rw [unl_zero _ hall]
  constructor
  · intro hz
    refine ext_gb h fun t ht => ?_
    have := hz (gb (xorl xs ys) t) (gb_mem (by rw [xorl_len xs ys h]; exact ht))
    rw [xorl_gb xs ys h t ht] at this
    exact (xr_zero _ _ (ha t).1 (hb t).1).1 this
  · rintro rfl z hz
    obtain ⟨i, hi, rfl⟩ := mem_gb hz
    rw [xorl_len xs xs rfl] at hi
    rw [xorl_gb xs xs rfl i hi]
    exact (xr_zero _ _ (ha i).1 (ha i).1).2 rfl
set_option maxHeartbeats 2000000 in
theorem oSame_any (va vb : Value) (xs ys : List Int) (w : World) (ha : Byt w va xs) (hb : Byt w vb ys) :
    Calls Tryz.prog 132 #[va, vb] w fun e w' => e = .returned (.bool (decide (xs = ys))) ∧ ∃ n, w' = w.drewN n := by
  obtain ⟨ao, ca, rfl, ha1, ha2, ha3, -, ha5⟩ := ha
  obtain ⟨bo, cb, rfl, hb1, hb2, hb3, -, hb5⟩ := hb
  by_cases hl : xs.length = ys.length
  · have HL : Hid (xs.length = ys.length) := hl
    have HA5 : Hid (0 < xs.length → ∃ b off, ao = some ⟨b, off, none⟩ ∧ ∀ t, t < xs.length → w.cell? ⟨b, off + t, none⟩ = some (.int .u8 (gb xs t))) := ha5
    have HB5 : Hid (0 < xs.length → ∃ b off, bo = some ⟨b, off, none⟩ ∧ ∀ t, t < xs.length → w.cell? ⟨b, off + t, none⟩ = some (.int .u8 (gb ys t))) := by
      rw [hl]; exact hb5
    have HA : Hid (AllB xs) := ha3
    have HB : Hid (AllB ys) := hb3
    rw [← hl] at hb1 ⊢
    clear hb5 ha5 ha3 hb3 hl
    rw [← unl_same xs ys HL.out HA.out HB.out]
    go_enter Tryz.func132, Tryz.ntmps132
    go_wp2
    go_loopw [5, 14] (fun u i wr => ∃ k n : Nat, k ≤ xs.length ∧ i = .int .i64 k ∧ u = .int .u8 (unl ((xorl xs ys).take k)) ∧ wr = w.drewN n) (fun _ i _ => xs.length - (intOf i).toNat)
    case atStart => exact ⟨0, 0, Nat.zero_le _, rfl, rfl, rfl⟩
    case round =>
      obtain ⟨k, n, hk, rfl, rfl, rfl⟩ := hrel
      by_cases hlt : k < xs.length
      · obtain ⟨b, off, rfl, hca⟩ := HA5.out (by omega)
        obtain ⟨b', off', rfl, hcb⟩ := HB5.out (by omega)
        have c1 : w.cell? ⟨b, off + k, none⟩ = some (.int .u8 (gb xs k)) := hca k hlt
        have c2 : w.cell? ⟨b', off' + k, none⟩ = some (.int .u8 (gb ys k)) := hcb k hlt
        have lk : (k : Int) < (xs.length : Int) := by omega
        have hx : bits .xor .u8 (gb xs k) (gb ys k) = xr (gb xs k) (gb ys k) := xr_of _ _ (HA.out k) (HB.out k)
        have SN : Hid (unl ((xorl xs ys).take (k + 1)) = bits .or .u8 (unl ((xorl xs ys).take k)) (xr (gb xs k) (gb ys k))) := by
          show _ = _
          rw [xorl_take xs ys HL.out k hlt, unl_snoc]
        clear hca hcb
        go_wp2
        go_quiet (fail)
        go_wp2
        go_roundw
        case rel => exact ⟨k + 1, n + nq, by omega, by go_num, by rw [SN.out], rfl⟩
        case measure => simp [intOf]; omega
      · have hks : k = xs.length := by omega
        have e : Hid ((xorl xs ys).take k = xorl xs ys) := List.take_of_length_le (by rw [xorl_len xs ys HL.out]; omega)
        rw [e.out]
        go_wp2
        go_ret
        exact ⟨rfl, n, rfl⟩
  · have : decide (xs = ys) = false := by simp only [decide_eq_false_iff_not]; intro e; exact hl (by rw [e])
    rw [this]
    have h2 : ((xs.length : Int) != (ys.length : Int)) = true := by simp; omega
    go_enter Tryz.func132, Tryz.ntmps132
    go_wp2
    go_ret
    exact ⟨rfl, 0, rfl⟩
def inv (xs : List Int) : List Int := xs.map fun x => xr 255 x
theorem inv_len (xs : List Int) : (inv xs).length = xs.length := by simp [inv]
theorem inv_gb (xs : List Int) (k : Nat) (hk : k < xs.length) : gb (inv xs) k = xr 255 (gb xs k) := by simp [gb, inv, List.getD, hk]
theorem inv_all (xs : List Int) (ha : AllB xs) : AllB (inv xs) := allB_mem fun z hz => by
  obtain ⟨i, hi, rfl⟩ := mem_gb hz
  rw [inv_len] at hi
  rw [inv_gb xs i hi]
  exact xr_bd _ _ (by decide) (ha i)
theorem inv_xorl (xs : List Int) : inv xs = xorl xs (List.replicate xs.length 255) := by
  refine ext_gb (by rw [inv_len, xorl_len _ _ (by simp)]) fun t ht => ?_
  rw [inv_len] at ht
  rw [inv_gb xs t ht, xorl_gb _ _ (by simp) t ht, xr_comm]
  simp [gb, List.getD, ht]
set_option maxHeartbeats 2000000 in
theorem invert_any (va : Value) (xs : List Int) (w : World) (ha : Byt w va xs) (hmax : xs.length ≤ 1048576) :
    Calls Tryz.prog 142 #[va] w fun e w' => ∃ v, e = .returned v ∧ Byt w' v (inv xs) ∧ Below w.heap.size w w' := by
  obtain ⟨ao, ca, rfl, ha1, ha2, ha3, -, ha5⟩ := ha
  have HA5 : Hid (0 < xs.length → ∃ b off, ao = some ⟨b, off, none⟩ ∧ ∀ t, t < xs.length → w.cell? ⟨b, off + t, none⟩ = some (.int .u8 (gb xs t))) := ha5
  have HA : Hid (AllB xs) := ha3
  clear ha5 ha3
  have HZ : Hid ((inv xs).length = xs.length) := inv_len xs
  go_enter Tryz.func142, Tryz.ntmps142
  go_wp2_with (at_make; refine make_law _ rfl (.tmp 6) (.tmp 6) rfl w.heap.size (Nat.le_refl _) _ xs.length rfl rfl rfl (by omega) ?_; intro w1 hown hbel hlt)
  go_loopw [10] (fun i wr => ∃ k : Nat, k ≤ xs.length ∧ i = .int .i64 k ∧ OwnN w.heap.size wr w.heap.size xs.length (part (inv xs) k) ∧ Below w.heap.size w wr) (fun i _ => xs.length - (intOf i).toNat)
  case atStart => exact ⟨0, Nat.zero_le _, rfl, by rw [part_zero, HZ.out]; exact hown, hbel⟩
  case round =>
    clear hown hbel
    obtain ⟨k, hk, rfl, hown, hbel⟩ := hrel
    by_cases hlt' : k < xs.length
    · obtain ⟨b, off, rfl, hca⟩ := HA5.out (by omega)
      have n1 := World.block_lt_of_cell? w _ (hca k hlt')
      have c1 : wr.cell? ⟨b, off + k, none⟩ = some (.int .u8 (gb xs k)) := (hbel.cell n1).trans (hca k hlt')
      have c3 := hown.cell hlt'
      have c4 := hown.free k
      have HX : Hid (bits .xor .u8 (if IntKind.u8.signed = true then -1 else IntKind.u8.max) (gb xs k) = xr 255 (gb xs k)) := xr_of 255 _ (by decide) (HA.out k)
      have hown' : OwnN w.heap.size (wr.setCell ⟨w.heap.size, k, none⟩ (.int .u8 (xr 255 (gb xs k)))) w.heap.size xs.length (part (inv xs) (k + 1)) := by
        have h := hown.set k (gb (inv xs) k)
        rw [part_set _ k (by rw [HZ.out]; exact hlt'), inv_gb xs k hlt'] at h
        exact h
      clear hca
      go_wp2
      go_roundw
      case rel => exact ⟨k + 1, by omega, by go_num, by rw [HX.out]; exact hown', hbel.setCell (Nat.le_refl _) _⟩
      case measure => simp [intOf]; omega
    · have hks : k = xs.length := by omega
      subst hks
      have hown2 : OwnN w.heap.size wr w.heap.size xs.length (inv xs) := by
        have := hown; rw [← HZ.out, part_end, HZ.out] at this; exact this
      go_wp2
      go_ret
      exact ⟨_, rfl, hown2.byt (inv_all _ HA.out), hbel⟩
set_option maxHeartbeats 2000000 in
theorem rxor_own (va vb : Value) (xs ys : List Int) (w : World) (ha : Byt w va xs) (hb : Byt w vb ys) (hl : xs.length = ys.length) (hmax : xs.length ≤ 1048576) :
    Calls Tryz.prog 127 #[va, vb] w fun e w' => ∃ v, e = .returned v ∧ Own w.heap.size w' v (xorl xs ys) ∧ Below w.heap.size w w' := by
  obtain ⟨ao, ca, rfl, ha1, ha2, ha3, -, ha5⟩ := ha
  obtain ⟨bo, cb, rfl, hb1, hb2, hb3, -, hb5⟩ := hb
  have HL : Hid (xs.length = ys.length) := hl
  have HA5 : Hid (0 < xs.length → ∃ b off, ao = some ⟨b, off, none⟩ ∧ ∀ t, t < xs.length → w.cell? ⟨b, off + t, none⟩ = some (.int .u8 (gb xs t))) := ha5
  have HB5 : Hid (0 < xs.length → ∃ b off, bo = some ⟨b, off, none⟩ ∧ ∀ t, t < xs.length → w.cell? ⟨b, off + t, none⟩ = some (.int .u8 (gb ys t))) := by
    rw [hl]; exact hb5
  have HA : Hid (AllB xs) := ha3
  have HB : Hid (AllB ys) := hb3
  rw [← hl] at hb1 ⊢
  clear hb5 ha5 ha3 hb3 hl
  have HZ : Hid ((xorl xs ys).length = xs.length) := xorl_len xs ys HL.out
  go_enter Tryz.func127, Tryz.ntmps127
  go_wp2
  go_loopw [5, 6] (fun v i wr => ∃ k : Nat, k ≤ xs.length ∧ i = .int .i64 k ∧ Own w.heap.size wr v ((xorl xs ys).take k) ∧ Below w.heap.size w wr) (fun _ i _ => xs.length - (intOf i).toNat)
  case atStart => exact ⟨0, Nat.zero_le _, rfl, Own.empty w (Nat.le_refl _), (Below.refl _ _).alloc (Nat.le_refl _) _⟩
  case round =>
    obtain ⟨k, hk, rfl, hown, hbel⟩ := hrel
    have hsz := hbel.size
    by_cases hlt' : k < xs.length
    · obtain ⟨b, off, rfl, hca⟩ := HA5.out (by omega)
      obtain ⟨b', off', rfl, hcb⟩ := HB5.out (by omega)
      have n1 := World.block_lt_of_cell? w _ (hca k hlt')
      have n2 := World.block_lt_of_cell? w _ (hcb k hlt')
      have c1 : wr.cell? ⟨b, off + k, none⟩ = some (.int .u8 (gb xs k)) := (hbel.cell n1).trans (hca k hlt')
      have c2 : wr.cell? ⟨b', off' + k, none⟩ = some (.int .u8 (gb ys k)) := (hbel.cell n2).trans (hcb k hlt')
      have lk : (k : Int) < (xs.length : Int) := by omega
      have lk0 : (0 : Int) ≤ (k : Int) := by omega
      have hx : bits .xor .u8 (gb xs k) (gb ys k) = xr (gb xs k) (gb ys k) := xr_of _ _ (HA.out k) (HB.out k)
      have hlen : ((xorl xs ys).take k).length ≤ 1099511627776 := by simp; omega
      have SN : Hid ((xorl xs ys).take (k + 1) = (xorl xs ys).take k ++ [xr (gb xs k) (gb ys k)]) := xorl_take xs ys HL.out k hlt'
      have HLEN : Hid (((xorl xs ys).take k).length ≤ 1099511627776) := hlen
      clear hca hcb hlen
      go_wp2
      go_region_held3 (fun w' => w'.cell? ⟨b, off + k, none⟩ = some (.int .u8 (gb xs k)) ∧ w'.cell? ⟨b', off' + k, none⟩ = some (.int .u8 (gb ys k)))
        (first
          | go_keep
          | (exact ⟨by rw [hbel'.cell n1]; simpa using c1, by rw [hbel'.cell n2]; simpa using c2⟩))
        ((refine step_push1 wr.drew rfl (.tmp 14) (.tmp 24) rfl w.heap.size (by simpa using hsz) _ _ (xr (gb xs k) (gb ys k)) rfl rfl hown HLEN.out ?_; intro v2 w2 hown' hbel'))
      go_wp2
      go_roundw
      case rel => exact ⟨k + 1, by omega, by go_num, by rw [SN.out]; exact hown', hbel.drew.trans hbel'⟩
      case measure => simp [intOf]; omega
    · have hks : k = xs.length := by omega
      have e : Hid ((xorl xs ys).take k = xorl xs ys) := List.take_of_length_le (by rw [HZ.out]; omega)
      rw [e.out] at hown
      go_wp2
      go_ret
      exact ⟨_, rfl, hown, hbel⟩
theorem rxor_any (va vb : Value) (xs ys : List Int) (w : World) (ha : Byt w va xs) (hb : Byt w vb ys) (hl : xs.length = ys.length) (hmax : xs.length ≤ 1048576) :
    Calls Tryz.prog 127 #[va, vb] w fun e w' => ∃ v, e = .returned v ∧ Byt w' v (xorl xs ys) ∧ Below w.heap.size w w' :=
  (rxor_own va vb xs ys w ha hb hl hmax).mono fun _ _ ⟨v, he, ho, hbl⟩ => ⟨v, he, ho.byt (xorl_all _ _ hl ha.all hb.all), hbl⟩
set_option maxHeartbeats 2000000 in
theorem rinvert_any (va : Value) (xs : List Int) (w : World) (ha : Byt w va xs) (hmax : xs.length ≤ 65536) :
    Calls Tryz.prog 98 #[va] w fun e w' => ∃ v, e = .returned v ∧ Byt w' v (inv xs) ∧ Below w.heap.size w w' := by
  have HA := ha
  obtain ⟨ao, ca, rfl, ha1, ha2, -, -, -⟩ := ha
  have e : clamp (xs.length : Int) 65536 = xs.length := by unfold clamp; omega
  have E : Hid (clamp (xs.length : Int) 65536 = xs.length) := e
  clear e
  rw [inv_xorl]
  go_enter Tryz.func98, Tryz.ntmps98
  go_wp2_with (first
    | (go_at_call 51; refine (rfill_any 255 _ _ (by decide)).mono ?_; rintro e w1 ⟨v1, rfl, hv1, hb1⟩; rw [E.out] at hv1; have hz1 := hb1.size)
    | (go_at_call 127; refine (rxor_any _ _ xs _ _ (HA.below hb1) hv1 (by simp) (by omega)).mono ?_; rintro e w2 ⟨v2, rfl, hv2, hb2⟩))
  go_ret
  exact ⟨_, rfl, hv2, hb1.trans (hb2.mono hz1)⟩
end Go.Proofs.YtakibiigcdgohaaGreatDoor
namespace Go.Proofs.YtakibiigcdgohaaGreatDoor.he
open Go.RowKit Go.Proofs.YtakibiigcdgohaaGreatDoor.fa
set_option maxRecDepth 20000
def be (x : Int) (s : Nat) : List Int := (le x s).reverse
theorem be_len (x : Int) (s : Nat) : (be x s).length = s := by simp [be, le_len]
theorem be_all (x : Int) (s : Nat) : AllB (be x s) := allB_reverse (le_all x s)
def hb (k n c l e t : Int) : List Int := [k, n, c, 0] ++ (be l 4 ++ (be e 8 ++ be t 8))
theorem hb_len (k n c l e t : Int) : (hb k n c l e t).length = 24 := by simp [hb, be_len]
def Rh (k n c : Int) : Prop := 1 ≤ k ∧ k ≤ 4 ∧ 0 ≤ n ∧ n ≤ 255 ∧ 0 ≤ c ∧ c ≤ 255
theorem allB_app {xs ys : List Int} (h : AllB xs) (h' : AllB ys) : AllB (xs ++ ys) := allB_mem fun x hx => by
  rcases List.mem_append.1 hx with q | q
  · obtain ⟨i, hi, rfl⟩ := mem_gb q; exact h i
  · obtain ⟨i, hi, rfl⟩ := mem_gb q; exact h' i
theorem hb_all {k n c : Int} (h : Rh k n c) (l e t : Int) : AllB (hb k n c l e t) := by
  obtain ⟨h1, h2, h3, h4, h5, h6⟩ := h
  refine allB_app (allB_mem fun x hx => ?_) (allB_app (be_all l 4) (allB_app (be_all e 8) (be_all t 8)))
  simp at hx
  rcases hx with rfl | rfl | rfl | rfl <;> omega
def sub (xs : List Int) (l h : Nat) : List Int := (xs.take h).drop l
theorem sub_len (xs : List Int) (l h : Nat) (hh : h ≤ xs.length) : (sub xs l h).length = h - l := by simp [sub]; omega
theorem sub_gb (xs : List Int) (l h t : Nat) (ht : t < h - l) : gb (sub xs l h) t = gb xs (l + t) := gb_cut xs l h t ht
theorem allB_sub {xs : List Int} (h : AllB xs) (l u : Nat) : AllB (sub xs l u) := allB_mem fun x hx => by
  obtain ⟨i, hi, rfl⟩ := mem_gb (List.mem_of_mem_take (List.mem_of_mem_drop hx))
  exact h i
theorem gb_appL (xs ys : List Int) (k : Nat) : gb (xs ++ ys) k = if k < xs.length then gb xs k else gb ys (k - xs.length) := by
  unfold gb
  rw [List.getD_eq_getElem?_getD]
  by_cases h : k < xs.length
  · rw [if_pos h, List.getElem?_append_left h]; rfl
  · rw [if_neg h, List.getElem?_append_right (by omega)]; rfl
theorem sub_of (a b c : List Int) : sub (a ++ (b ++ c)) a.length (a.length + b.length) = b := by
  unfold sub
  rw [← List.append_assoc, List.take_append_of_le_length (by simp), List.take_of_length_le (by simp), List.drop_left]
theorem sub_at (a b c : List Int) (l h : Nat) (hl : a.length = l) (hh : l + b.length = h) : sub (a ++ (b ++ c)) l h = b := by
  subst hl; subst hh; exact sub_of a b c
def n4 (a b c d : Int) : Int := ((a * 256 + b) * 256 + c) * 256 + d
theorem num_of4 (a b c d : Int) (ha : 0 ≤ a ∧ a ≤ 255) (hb : 0 ≤ b ∧ b ≤ 255) (hc : 0 ≤ c ∧ c ≤ 255) (_hd : 0 ≤ d ∧ d ≤ 255) : num (last8 [a, b, c, d]) = n4 a b c d := by
  simp [num, last8, n4]
  omega
theorem num_of8 (a b c d e f g h : Int) (ha : 0 ≤ a ∧ a ≤ 255) (hb : 0 ≤ b ∧ b ≤ 255) (hc : 0 ≤ c ∧ c ≤ 255) (hd : 0 ≤ d ∧ d ≤ 255) (he : 0 ≤ e ∧ e ≤ 255) (hf : 0 ≤ f ∧ f ≤ 255) (hg : 0 ≤ g ∧ g ≤ 255) (_hh : 0 ≤ h ∧ h ≤ 255) : num (last8 [a, b, c, d, e, f, g, h]) = n4 a b c d * 4294967296 + n4 e f g h := by
  simp [num, last8, n4]
  omega
theorem be4 (x : Int) : be x 4 = [x / 256 / 256 / 256 % 256, x / 256 / 256 % 256, x / 256 % 256, x % 256] := rfl
theorem be8 (x : Int) : be x 8 = [x / 256 / 256 / 256 / 256 / 256 / 256 / 256 % 256, x / 256 / 256 / 256 / 256 / 256 / 256 % 256, x / 256 / 256 / 256 / 256 / 256 % 256, x / 256 / 256 / 256 / 256 % 256, x / 256 / 256 / 256 % 256, x / 256 / 256 % 256, x / 256 % 256, x % 256] := rfl
theorem num_be4 (x : Int) (h : 0 ≤ x ∧ x ≤ 4294967295) : num (last8 (be x 4)) = x := by
  rw [be4, num_of4 _ _ _ _ (by omega) (by omega) (by omega) (by omega)]
  unfold n4; omega
theorem num_be8 (x : Int) (h : 0 ≤ x ∧ x ≤ 18446744073709551615) : num (last8 (be x 8)) = x := by
  rw [be8, num_of8 _ _ _ _ _ _ _ _ (by omega) (by omega) (by omega) (by omega) (by omega) (by omega) (by omega) (by omega)]
  unfold n4; omega
theorem list4 {xs : List Int} (h : xs.length = 4) : xs = [gb xs 0, gb xs 1, gb xs 2, gb xs 3] := by
  match xs, h with
  | [a, b, c, d], _ => rfl
theorem be_num4 {xs : List Int} (h : xs.length = 4) (ha : AllB xs) : be (num (last8 xs)) 4 = xs ∧ 0 ≤ num (last8 xs) ∧ num (last8 xs) ≤ 4294967295 := by
  have h0 := ha 0; have h1 := ha 1; have h2 := ha 2; have h3 := ha 3
  rw [list4 h]
  generalize gb xs 0 = a at *; generalize gb xs 1 = b at *; generalize gb xs 2 = c at *; generalize gb xs 3 = d at *
  rw [num_of4 _ _ _ _ h0 h1 h2 h3, be4]
  unfold n4
  refine ⟨?_, by omega, by omega⟩
  have e1 : (((a * 256 + b) * 256 + c) * 256 + d) % 256 = d := by omega
  have e2 : (((a * 256 + b) * 256 + c) * 256 + d) / 256 % 256 = c := by omega
  have e3 : (((a * 256 + b) * 256 + c) * 256 + d) / 256 / 256 % 256 = b := by omega
  have e4 : (((a * 256 + b) * 256 + c) * 256 + d) / 256 / 256 / 256 % 256 = a := by omega
  rw [e1, e2, e3, e4]
def qk (xs : List Int) : Int := gb xs 0
def qn (xs : List Int) : Int := gb xs 1
def qc (xs : List Int) : Int := gb xs 2
def ql (xs : List Int) : Int := num (last8 (sub xs 4 8))
def qe (xs : List Int) : Int := num (last8 (sub xs 8 16))
def qt (xs : List Int) : Int := num (last8 (sub xs 16 24))
def Tl (xs : List Int) : Prop := inv (sub xs 0 24) = sub xs 24 48 ∧ gb xs 3 = 0 ∧ 1 ≤ gb xs 0 ∧ gb xs 0 ≤ 4
theorem q_hb {k n c l e t : Int} (ys : List Int) (hl : 0 ≤ l ∧ l ≤ 4294967295) (he : 0 ≤ e ∧ e ≤ 18446744073709551615) (ht : 0 ≤ t ∧ t ≤ 18446744073709551615) :
    qk (hb k n c l e t ++ ys) = k ∧ qn (hb k n c l e t ++ ys) = n ∧ qc (hb k n c l e t ++ ys) = c ∧ ql (hb k n c l e t ++ ys) = l ∧ qe (hb k n c l e t ++ ys) = e ∧ qt (hb k n c l e t ++ ys) = t := by
  have e1 : hb k n c l e t ++ ys = [k, n, c, 0] ++ (be l 4 ++ (be e 8 ++ be t 8 ++ ys)) := by simp [hb]
  have e2 : hb k n c l e t ++ ys = ([k, n, c, 0] ++ be l 4) ++ (be e 8 ++ (be t 8 ++ ys)) := by simp [hb]
  have e3 : hb k n c l e t ++ ys = ([k, n, c, 0] ++ be l 4 ++ be e 8) ++ (be t 8 ++ ys) := by simp [hb]
  refine ⟨rfl, rfl, rfl, ?_, ?_, ?_⟩
  · unfold ql; rw [e1, sub_at _ _ _ 4 8 rfl (by rw [be_len]), num_be4 l hl]
  · unfold qe; rw [e2, sub_at _ _ _ 8 16 (by simp [be_len]) (by rw [be_len]), num_be8 e he]
  · unfold qt; rw [e3, sub_at _ _ _ 16 24 (by simp [be_len]) (by rw [be_len]), num_be8 t ht]
def hend (hs tag mark : List Int) : List Int := hs ++ (inv hs ++ (tag ++ mark))
theorem hend_len {hs tag mark : List Int} (h : hs.length = 24) (h1 : tag.length = 32) (h2 : mark.length = 8) : (hend hs tag mark).length = 88 := by
  simp [hend, inv_len, h, h1, h2]
theorem hend_all {hs tag mark : List Int} (h : AllB hs) (h1 : AllB tag) (h2 : AllB mark) : AllB (hend hs tag mark) := allB_app h (allB_app (inv_all hs h) (allB_app h1 h2))
theorem hend_sub {hs tag mark : List Int} (h : hs.length = 24) (h1 : tag.length = 32) : sub (hend hs tag mark) 0 24 = hs ∧ sub (hend hs tag mark) 24 48 = inv hs ∧ sub (hend hs tag mark) 48 80 = tag ∧ (hend hs tag mark).drop 80 = mark := by
  refine ⟨?_, ?_, ?_, ?_⟩
  · have : hend hs tag mark = [] ++ (hs ++ (inv hs ++ (tag ++ mark))) := rfl
    rw [this, sub_at _ _ _ 0 24 rfl (by omega)]
  · unfold hend; rw [sub_at _ _ _ 24 48 h (by rw [inv_len]; omega)]
  · have : hend hs tag mark = (hs ++ inv hs) ++ (tag ++ mark) := by simp [hend]
    rw [this, sub_at _ _ _ 48 80 (by rw [List.length_append, inv_len]; omega) (by omega)]
  · have : hend hs tag mark = (hs ++ inv hs ++ tag) ++ mark := by simp [hend]
    rw [this, List.drop_append_of_le_length (by simp [inv_len]; omega), List.drop_of_length_le (by simp [inv_len]; omega), List.nil_append]
theorem hend_tl {k n c l e t : Int} (h : Rh k n c) (tag mark : List Int) (h1 : tag.length = 32) : Tl (hend (hb k n c l e t) tag mark) := by
  obtain ⟨s1, s2, -, -⟩ := hend_sub (mark := mark) (hb_len k n c l e t) h1
  refine ⟨by rw [s1, s2], rfl, h.1, h.2.1⟩
theorem bit_xr (x t : Nat) (ht : t < 8) : bit (255 ^^^ x) t = !bit x t := by
  rw [bit_test, bit_test, Nat.testBit_xor]
  have : (255 : Nat).testBit t = true := by
    match t, ht with
    | 0, _ => rfl
    | 1, _ => rfl
    | 2, _ => rfl
    | 3, _ => rfl
    | 4, _ => rfl
    | 5, _ => rfl
    | 6, _ => rfl
    | 7, _ => rfl
  rw [this]
  cases x.testBit t <;> rfl
theorem hs_inv (xs : List Int) (i : Nat) (h : i < 8 * xs.length) : hs (inv xs) i = !hs xs i := by
  unfold hs
  rw [inv_gb xs (i / 8) (by omega)]
  unfold xr
  rw [Int.toNat_natCast]
  exact bit_xr _ _ (Nat.mod_lt _ (by omega))
theorem hs_ext {xs ys : List Int} (h : xs.length = ys.length) (hx : AllB xs) (hy : AllB ys) (hb : ∀ i, i < 8 * xs.length → hs xs i = hs ys i) : xs = ys := by
  rw [← ofb_hs ys hy (hs xs) fun i hi => hb i (by omega), ← h]
  exact (ofb_hs xs hx _ fun _ _ => rfl).symm
theorem hs_app (xs ys : List Int) (i : Nat) : hs (xs ++ ys) i = if i < 8 * xs.length then hs xs i else hs ys (i - 8 * xs.length) := by
  unfold hs
  rw [gb_appL]
  by_cases h : i < 8 * xs.length
  · rw [if_pos (by omega), if_pos h]
  · rw [if_neg (by omega), if_neg h, show (i - 8 * xs.length) / 8 = i / 8 - xs.length by omega, show (i - 8 * xs.length) % 8 = i % 8 by omega]
theorem bits_whole {p y z : List Int} (hp : AllB p) (hy : AllB y) (l1 : y.length = p.length) (he : inv y = z) (hm : (∀ i, i < 8 * (2 * p.length) → hs (p ++ inv p) i = true → hs (y ++ z) i = true) ∨ (∀ i, i < 8 * (2 * p.length) → hs (y ++ z) i = true → hs (p ++ inv p) i = true)) : y = p := by
  refine hs_ext l1 hy hp fun i hi => ?_
  have a1 := hs_app p (inv p) i
  have a2 := hs_app p (inv p) (8 * p.length + i)
  have a3 := hs_app y z i
  have a4 := hs_app y z (8 * y.length + i)
  rw [if_pos (by omega)] at a1 a3
  rw [if_neg (by omega), show 8 * p.length + i - 8 * p.length = i by omega, hs_inv p i (by omega)] at a2
  rw [if_neg (by omega), show 8 * y.length + i - 8 * y.length = i by omega, ← he, hs_inv y i (by omega)] at a4
  rw [l1] at a4
  rw [he] at a4
  rcases hm with hm | hm
  · have m1 := hm i (by omega)
    have m2 := hm (8 * p.length + i) (by omega)
    rw [a1, a3] at m1
    rw [a2, a4] at m2
    cases q : hs p i <;> cases r : hs y i <;> simp [q, r] at m1 m2 ⊢
  · have m1 := hm i (by omega)
    have m2 := hm (8 * p.length + i) (by omega)
    rw [a1, a3] at m1
    rw [a2, a4] at m2
    cases q : hs p i <;> cases r : hs y i <;> simp [q, r] at m1 m2 ⊢
def mark (n : Nat) : List Int := List.replicate (n - 8) 255 ++ List.replicate 8 0
theorem mark_len (n : Nat) (h : 8 ≤ n) : (mark n).length = n := by simp [mark]; omega
theorem mark_all (n : Nat) : AllB (mark n) := allB_app (allB_replicate 255 _ (by omega)) (allB_replicate 0 _ (by omega))
end Go.Proofs.YtakibiigcdgohaaGreatDoor.he
namespace Go.Proofs.YtakibiigcdgohaaGreatDoor.ck
open Go.RowKit Go.Proofs.YtakibiigcdgohaaGreatDoor.fa Go.Proofs.YtakibiigcdgohaaGreatDoor.he
set_option maxRecDepth 20000
def nc (S : Nat) : Nat := (624 + S - 1) / S
theorem nc_le {S : Nat} (h1 : 32 ≤ S) (_h2 : S ≤ 4096) : 1 ≤ nc S ∧ nc S ≤ 20 ∧ 624 ≤ nc S * S ∧ nc S * S < 624 + S := by
  have e := Nat.div_add_mod (624 + S - 1) S
  have m := Nat.mod_lt (624 + S - 1) (show 0 < S by omega)
  have e' : S * nc S + (624 + S - 1) % S = 624 + S - 1 := e
  rw [Nat.mul_comm] at e'
  have h3 : 624 ≤ nc S * S := by omega
  refine ⟨?_, ?_, h3, by omega⟩
  · cases h : nc S with
    | zero => rw [h] at h3; omega
    | succ k => omega
  · refine Nat.le_of_not_lt fun hn => ?_
    have : 21 * S ≤ nc S * S := Nat.mul_le_mul_right _ hn
    omega
def pd (S : Nat) (xs : List Int) : List Int := xs ++ List.replicate (nc S * S - 624) 255
theorem pd_len {S : Nat} {xs : List Int} (h1 : 32 ≤ S) (h2 : S ≤ 4096) (hl : xs.length = 624) : (pd S xs).length = nc S * S := by
  have := nc_le h1 h2
  simp [pd, hl]; omega
theorem pd_all {S : Nat} {xs : List Int} (h : AllB xs) : AllB (pd S xs) := allB_app h (allB_replicate 255 _ (by omega))
theorem pd_take {S : Nat} {xs : List Int} (hl : xs.length = 624) : (pd S xs).take 624 = xs := List.take_left' hl
def sec (S : Nat) (xs : List Int) (i : Nat) : List Int := sub (pd S xs) (i * S) (i * S + S)
theorem sec_end {S i : Nat} (h : i < nc S) : i * S + S ≤ nc S * S := by
  have : (i + 1) * S ≤ nc S * S := Nat.mul_le_mul_right _ h
  rwa [Nat.succ_mul] at this
theorem sec_len {S i : Nat} {xs : List Int} (h1 : 32 ≤ S) (h2 : S ≤ 4096) (hl : xs.length = 624) (hi : i < nc S) : (sec S xs i).length = S := by
  unfold sec
  rw [sub_len _ _ _ (by rw [pd_len h1 h2 hl]; exact sec_end hi)]
  omega
theorem sec_all {S : Nat} {xs : List Int} (h : AllB xs) (i : Nat) : AllB (sec S xs i) := allB_sub (pd_all h) _ _
def parts (f : Nat → List Int) : Nat → List Int
  | 0 => []
  | k + 1 => parts f k ++ f k
theorem parts_len {f : Nat → List Int} {S n : Nat} (h : ∀ i, i < n → (f i).length = S) (k : Nat) (hk : k ≤ n) : (parts f k).length = k * S := by
  induction k with
  | zero => simp [parts]
  | succ k ih => rw [parts, List.length_append, ih (by omega), h k (by omega), Nat.succ_mul]
theorem parts_congr {f f' : Nat → List Int} (k : Nat) (h : ∀ i, i < k → f i = f' i) : parts f k = parts f' k := by
  induction k with
  | zero => rfl
  | succ k ih => rw [parts, parts, ih fun i hi => h i (by omega), h k (by omega)]
theorem parts_all {f : Nat → List Int} (k : Nat) (h : ∀ i, i < k → AllB (f i)) : AllB (parts f k) := by
  induction k with
  | zero => exact allB_mem fun x hx => by cases hx
  | succ k ih => exact allB_app (ih fun i hi => h i (by omega)) (h k (by omega))
theorem sec_parts (S : Nat) (xs : List Int) (k : Nat) : parts (sec S xs) k = (pd S xs).take (k * S) := by
  induction k with
  | zero => simp [parts]
  | succ k ih =>
    rw [parts, ih, Nat.succ_mul]
    unfold sec sub
    rw [List.drop_take, List.take_add, Nat.add_sub_cancel_left]
theorem sec_whole {S : Nat} {xs : List Int} (h1 : 32 ≤ S) (h2 : S ≤ 4096) (hl : xs.length = 624) : (parts (sec S xs) (nc S)).take 624 = xs := by
  rw [sec_parts, List.take_of_length_le (show (pd S xs).length ≤ nc S * S by rw [pd_len h1 h2 hl]; exact Nat.le_refl _), pd_take hl]
def kend (S : Nat) (i : Nat) (gen : Int) (mk : List Int) : List Int := hend (hb 4 (i : Int) 0 (nc S : Int) gen 0) (List.replicate 32 255) mk
def pgk (S : Nat) (xs : List Int) (gen : Int) (mk : List Int) (i : Nat) : List Int := sec S xs i ++ kend S i gen mk
theorem rh_k {S i : Nat} (h1 : 32 ≤ S) (h2 : S ≤ 4096) (hi : i < nc S) : Rh 4 (i : Int) 0 := by
  have := nc_le h1 h2
  exact ⟨by omega, by omega, by omega, by omega, by omega, by omega⟩
theorem kend_len {S i : Nat} {gen : Int} {mk : List Int} (h : mk.length = 8) : (kend S i gen mk).length = 88 := hend_len (hb_len _ _ _ _ _ _) (by simp) h
theorem pgk_len {S i : Nat} {xs : List Int} {gen : Int} {mk : List Int} (h1 : 32 ≤ S) (h2 : S ≤ 4096) (hl : xs.length = 624) (hi : i < nc S) (h : mk.length = 8) : (pgk S xs gen mk i).length = S + 88 := by
  unfold pgk
  rw [List.length_append, sec_len h1 h2 hl hi, kend_len h]
theorem pgk_drop {S i : Nat} {xs : List Int} {gen : Int} {mk : List Int} (h1 : 32 ≤ S) (h2 : S ≤ 4096) (hl : xs.length = 624) (hi : i < nc S) : (pgk S xs gen mk i).drop S = kend S i gen mk ∧ (pgk S xs gen mk i).take S = sec S xs i := by
  have := sec_len h1 h2 hl hi
  exact ⟨List.drop_left' this, List.take_left' this⟩
def Kpg (S : Nat) (gen : Int) (i : Nat) (ys : List Int) : Prop :=
  ys.length = S + 88 ∧ Tl (ys.drop S) ∧ qk (ys.drop S) = 4 ∧ qn (ys.drop S) = (i : Int) ∧ he.qc (ys.drop S) = 0 ∧ ql (ys.drop S) = (nc S : Int) ∧ qe (ys.drop S) = gen ∧ qt (ys.drop S) = 0
def Kcm (S : Nat) (ys : List Int) : Prop := (ys.drop S).drop 80 = List.replicate 8 0
def kgen (S : Nat) (ps : List (List Int)) : Int := qe ((ps.getD 0 []).drop S)
def Khd (S : Nat) (ps : List (List Int)) : Prop := nc S ≤ ps.length ∧ (∀ i, i < nc S → Kpg S (kgen S ps) i (ps.getD i [])) ∧ Kcm S (ps.getD (nc S - 1) [])
def krec (S : Nat) (ps : List (List Int)) : List Int := (parts (fun i => (ps.getD i []).take S) (nc S)).take 624
theorem pgk_tells {S i : Nat} {xs : List Int} {gen : Int} {mk : List Int} (h1 : 32 ≤ S) (h2 : S ≤ 4096) (hl : xs.length = 624) (hi : i < nc S) (hg : 0 ≤ gen ∧ gen ≤ 18446744073709551615) (hm : mk.length = 8) : Kpg S gen i (pgk S xs gen mk i) := by
  have n := nc_le h1 h2
  have q := q_hb (k := 4) (n := (i : Int)) (c := 0) (l := (nc S : Int)) (e := gen) (t := 0) (inv (hb 4 (i : Int) 0 (nc S : Int) gen 0) ++ (List.replicate 32 255 ++ mk)) ⟨by omega, by omega⟩ hg ⟨by omega, by omega⟩
  unfold Kpg
  rw [(pgk_drop h1 h2 hl hi).1]
  exact ⟨pgk_len h1 h2 hl hi hm, hend_tl (rh_k h1 h2 hi) _ _ (by simp), q⟩
theorem pgk_cm {S i : Nat} {xs : List Int} {gen : Int} {mk : List Int} (h1 : 32 ≤ S) (h2 : S ≤ 4096) (hl : xs.length = 624) (hi : i < nc S) : Kcm S (pgk S xs gen mk i) ↔ mk = List.replicate 8 0 := by
  unfold Kcm
  rw [(pgk_drop h1 h2 hl hi).1]
  unfold kend
  rw [(hend_sub (hb_len _ _ _ _ _ _) (by simp)).2.2.2]
def kps (S : Nat) (xs : List Int) (gen : Int) (mk : List Int) : List (List Int) := (List.range (nc S)).map fun i => if i + 1 = nc S then pgk S xs gen mk i else pgk S xs gen (List.replicate 8 255) i
theorem kps_at {S : Nat} {xs : List Int} {gen : Int} {mk : List Int} (i : Nat) (hi : i < nc S) : (kps S xs gen mk).getD i [] = if i + 1 = nc S then pgk S xs gen mk i else pgk S xs gen (List.replicate 8 255) i := by
  simp [kps, List.getD, hi]
theorem kps_len (S : Nat) (xs : List Int) (gen : Int) (mk : List Int) : (kps S xs gen mk).length = nc S := by simp [kps]
theorem kps_take {S i : Nat} {xs : List Int} {gen : Int} {mk : List Int} (h1 : 32 ≤ S) (h2 : S ≤ 4096) (hl : xs.length = 624) (hi : i < nc S) : ((kps S xs gen mk).getD i []).take S = sec S xs i := by
  rw [kps_at i hi]
  split
  · exact (pgk_drop h1 h2 hl hi).2
  · exact (pgk_drop h1 h2 hl hi).2
theorem kps_tells {S i : Nat} {xs : List Int} {gen : Int} {mk : List Int} (h1 : 32 ≤ S) (h2 : S ≤ 4096) (hl : xs.length = 624) (hi : i < nc S) (hg : 0 ≤ gen ∧ gen ≤ 18446744073709551615) (hm : mk.length = 8) : Kpg S gen i ((kps S xs gen mk).getD i []) := by
  rw [kps_at i hi]
  split
  · exact pgk_tells h1 h2 hl hi hg hm
  · exact pgk_tells h1 h2 hl hi hg (by simp)
theorem kps_gen {S : Nat} {xs : List Int} {gen : Int} {mk : List Int} (h1 : 32 ≤ S) (h2 : S ≤ 4096) (hl : xs.length = 624) (hg : 0 ≤ gen ∧ gen ≤ 18446744073709551615) (hm : mk.length = 8) : kgen S (kps S xs gen mk) = gen := by
  have n := nc_le h1 h2
  exact (kps_tells h1 h2 hl (by omega) hg hm (i := 0)).2.2.2.2.2.2.1
theorem kps_hold {S : Nat} {xs : List Int} {gen : Int} (h1 : 32 ≤ S) (h2 : S ≤ 4096) (hl : xs.length = 624) (hg : 0 ≤ gen ∧ gen ≤ 18446744073709551615) :
    Khd S (kps S xs gen (List.replicate 8 0)) ∧ kgen S (kps S xs gen (List.replicate 8 0)) = gen ∧ krec S (kps S xs gen (List.replicate 8 0)) = xs := by
  have n := nc_le h1 h2
  have e := kps_gen (mk := List.replicate 8 0) h1 h2 hl hg (by simp)
  refine ⟨⟨by rw [kps_len]; exact Nat.le_refl _, fun i hi => ?_, ?_⟩, e, ?_⟩
  · rw [e]; exact kps_tells h1 h2 hl hi hg (by simp)
  · rw [kps_at _ (by omega), if_pos (by omega)]
    exact (pgk_cm h1 h2 hl (by omega)).2 rfl
  · unfold krec
    rw [parts_congr (f' := sec S xs) _ fun i hi => kps_take h1 h2 hl hi]
    exact sec_whole h1 h2 hl
theorem khd_few {S : Nat} {ps : List (List Int)} (h : ps.length < nc S) : ¬ Khd S ps := fun q => by
  have := q.1
  omega
end Go.Proofs.YtakibiigcdgohaaGreatDoor.ck
namespace Go.Proofs.YtakibiigcdgohaaGreatDoor.ck
open Go.RowKit Go.Proofs.YtakibiigcdgohaaGreatDoor.fa Go.Proofs.YtakibiigcdgohaaGreatDoor.he
set_option maxRecDepth 20000
def Kc (S : Nat) (bs : List (List (List Int))) (k : Nat) (at' gen : Int) (rec : List Int) : Prop :=
  (at' = -1 ∧ gen = 0 ∧ rec = [] ∧ ∀ j, j < k → ¬ Khd S (bs.getD j [])) ∨
  (∃ i : Nat, i < k ∧ at' = (i : Int) ∧ Khd S (bs.getD i []) ∧ gen = kgen S (bs.getD i []) ∧ rec = krec S (bs.getD i []) ∧
    (∀ j, j < k → Khd S (bs.getD j []) → kgen S (bs.getD j []) ≤ gen) ∧ ∀ j, j < i → Khd S (bs.getD j []) → kgen S (bs.getD j []) < gen)
theorem kc_zero (S : Nat) (bs : List (List (List Int))) : Kc S bs 0 (-1) 0 [] := .inl ⟨rfl, rfl, rfl, fun _ hj => absurd hj (Nat.not_lt_zero _)⟩
theorem kc_none {S : Nat} {bs : List (List (List Int))} {k : Nat} {at' gen : Int} {rec : List Int} (h : Kc S bs k at' gen rec) (hn : ¬ Khd S (bs.getD k [])) : Kc S bs (k + 1) at' gen rec := by
  rcases h with ⟨h1, h2, h3, h4⟩ | ⟨i, h1, h2, h3, h4, h5, h6, h7⟩
  · refine .inl ⟨h1, h2, h3, fun j hj => ?_⟩
    by_cases e : j = k
    · rw [e]; exact hn
    · exact h4 j (by omega)
  · refine .inr ⟨i, by omega, h2, h3, h4, h5, fun j hj hh => ?_, h7⟩
    by_cases e : j = k
    · rw [e] at hh; exact absurd hh hn
    · exact h6 j (by omega) hh
theorem kc_first {S : Nat} {bs : List (List (List Int))} {k : Nat} {at' gen : Int} {rec : List Int} (h : Kc S bs k at' gen rec) (ha : at' < 0) (hy : Khd S (bs.getD k [])) : Kc S bs (k + 1) (k : Int) (kgen S (bs.getD k [])) (krec S (bs.getD k [])) := by
  rcases h with ⟨-, -, -, h4⟩ | ⟨i, h1, h2, -⟩
  · refine .inr ⟨k, by omega, rfl, hy, rfl, rfl, fun j hj hh => ?_, fun j hj hh => absurd hh (h4 j hj)⟩
    by_cases e : j = k
    · rw [e]; exact Int.le_refl _
    · exact absurd hh (h4 j (by omega))
  · omega
theorem kc_more {S : Nat} {bs : List (List (List Int))} {k : Nat} {at' gen : Int} {rec : List Int} (h : Kc S bs k at' gen rec) (ha : ¬ at' < 0) (hy : Khd S (bs.getD k [])) (hg : kgen S (bs.getD k []) > gen) : Kc S bs (k + 1) (k : Int) (kgen S (bs.getD k [])) (krec S (bs.getD k [])) := by
  rcases h with ⟨h1, -⟩ | ⟨i, h1, h2, h3, h4, h5, h6, h7⟩
  · omega
  · refine .inr ⟨k, by omega, rfl, hy, rfl, rfl, fun j hj hh => ?_, fun j hj hh => ?_⟩
    · by_cases e : j = k
      · rw [e]; exact Int.le_refl _
      · have := h6 j (by omega) hh
        omega
    · have := h6 j hj hh
      omega
theorem kc_less {S : Nat} {bs : List (List (List Int))} {k : Nat} {at' gen : Int} {rec : List Int} (h : Kc S bs k at' gen rec) (ha : ¬ at' < 0) (hg : ¬ kgen S (bs.getD k []) > gen) : Kc S bs (k + 1) at' gen rec := by
  rcases h with ⟨h1, -⟩ | ⟨i, h1, h2, h3, h4, h5, h6, h7⟩
  · omega
  · refine .inr ⟨i, by omega, h2, h3, h4, h5, fun j hj hh => ?_, h7⟩
    by_cases e : j = k
    · rw [e]; omega
    · exact h6 j (by omega) hh
end Go.Proofs.YtakibiigcdgohaaGreatDoor.ck
namespace Go.Proofs.YtakibiigcdgohaaGreatDoor.vb
open Go.RowKit Go.Proofs.YtakibiigcdgohaaGreatDoor.fa Go.Proofs.YtakibiigcdgohaaGreatDoor.he Go.Proofs.YtakibiigcdgohaaGreatDoor.na Go.Proofs.YtakibiigcdgohaaGreatDoor.ck
set_option maxRecDepth 20000
structure Bx where
  s : St
  cur : Int
  gen : Int
  cln : Nat → Bool
  bad : Nat → Bool
  lk : Nat → Bool
  hf : Bool
def bpg (P : Nat) (s : St) (k : Nat) : List (List Int) := (List.range P).map (pgs s k)
def dst (P T : Nat) (pl : Pln) (b : Bx) (k : Nat) : Bx × Int :=
  if off b.s = true then (b, 4) else
  match pl (ops b.s) with
  | none => ({ b with s := edo P T pl b.s k, cln := at1 b.cln k true, lk := at1 b.lk k false }, 0)
  | some (true, _) => ({ b with s := edo P T pl b.s k }, 4)
  | some (false, _) =>
    match pl (ops b.s + 1) with
    | none => ({ b with s := sdo P T pl (edo P T pl b.s k) k, bad := at1 b.bad k true, cln := at1 b.cln k false, lk := at1 b.lk k false }, 5)
    | some (true, _) => ({ b with s := sdo P T pl (edo P T pl b.s k) k, bad := at1 b.bad k true, cln := at1 b.cln k false, hf := true }, 4)
    | some (false, _) => ({ b with s := sdo P T pl (edo P T pl b.s k) k, bad := at1 b.bad k true, cln := at1 b.cln k false, lk := at1 b.lk k true, hf := true }, 5)
def prg (N P T : Nat) (pl : Pln) (s : St) (k p : Nat) (d : List Int) : St × Int :=
  match pno N P T s (k : Int) (p : Int) d with
  | some x => (s, x)
  | none => (pdo T pl s k p d, ans (pl (ops s)))
def wth (T : Nat) (l : List (List Int)) (i : Nat) : List Int := if i < l.length then l.getD i [] else he.mark T
def wpl (l : List (List Int)) (i : Nat) : Nat := min i (l.length - 1)
def wri (N P T : Nat) (pl : Pln) (l : List (List Int)) (k : Nat) : Nat → St → Nat → St × Int
  | 0, s, _ => (s, 0)
  | m + 1, s, i => if (prg N P T pl s k (wpl l i) (wth T l i)).2 = 0 then wri N P T pl l k m (prg N P T pl s k (wpl l i) (wth T l i)).1 (i + 1) else prg N P T pl s k (wpl l i) (wth T l i)
def tr2 (N P T : Nat) (pl : Pln) (b : Bx) (k : Nat) (l : List (List Int)) : Bx × Int :=
  let r := wri N P T pl l k (l.length + 1) b.s 0
  if r.2 = 0 ∨ r.2 = 4 then ({ b with s := r.1, cln := at1 b.cln k false }, r.2)
  else
    let d := dst P T pl { b with s := r.1, cln := at1 b.cln k false, bad := at1 b.bad k true } k
    if d.2 = 4 then d else (d.1, 5)
def tr1 (N P T : Nat) (pl : Pln) (b : Bx) (k : Nat) (l : List (List Int)) : Bx × Int :=
  if b.cln k = true then tr2 N P T pl b k l
  else if (dst P T pl b k).2 = 0 then tr2 N P T pl (dst P T pl b k).1 k l else dst P T pl b k
def oth (P T : Nat) (pl : Pln) : Nat → Bx → Nat → Bx × Int
  | 0, b, _ => (b, 0)
  | m + 1, b, k => if (k : Int) = b.cur ∨ b.cln k = true ∨ (b.bad k = true ∧ b.lk k = false) then oth P T pl m b (k + 1)
    else if (dst P T pl b k).2 = 4 then dst P T pl b k else oth P T pl m (dst P T pl b k).1 (k + 1)
def cmi (N P T : Nat) (pl : Pln) (l : List (List Int)) (gen : Int) : Nat → Bx → Nat → Bx × Int
  | 0, b, _ => (b, 15)
  | m + 1, b, i => if ((i % 4 : Nat) : Int) = b.cur ∨ b.bad (i % 4) = true then cmi N P T pl l gen m b (i + 1)
    else if (tr1 N P T pl b (i % 4) l).2 = 4 then tr1 N P T pl b (i % 4) l
    else if (tr1 N P T pl b (i % 4) l).2 = 0 then oth P T pl 4 { (tr1 N P T pl b (i % 4) l).1 with cur := ((i % 4 : Nat) : Int), gen := gen } 0
    else cmi N P T pl l gen m (tr1 N P T pl b (i % 4) l).1 (i + 1)
def cmt (N P T : Nat) (pl : Pln) (b : Bx) (l : List (List Int)) (gen : Int) : Bx × Int :=
  if off b.s = true then (b, 4) else cmi N P T pl l gen 4 b (b.cur + 1).toNat
def Fsh (P T : Nat) (s : St) (k : Nat) : Prop := (∀ p, p < P → pgs s k p = List.replicate T 255 ∧ usd s k p = 0) ∧ lsp s k = -1 ∧ scr s k = false
def Nul (P T : Nat) (s : St) (k : Nat) : Prop := ∀ p, p < P → pgs s k p = List.replicate T 0
def Jk (P T : Nat) (b : Bx) (k : Nat) : Prop := (b.cln k = true → Fsh P T b.s k) ∧ (b.bad k = true → b.lk k = false → b.cln k = true ∨ Nul P T b.s k)
def J (P T : Nat) (b : Bx) : Prop := ∀ k, k < 4 → Jk P T b k
def Sam (s s' : St) (k : Nat) : Prop := (∀ p, pgs s' k p = pgs s k p ∧ usd s' k p = usd s k p) ∧ lsp s' k = lsp s k ∧ scr s' k = scr s k
theorem Sam.refl (s : St) (k : Nat) : Sam s s k := ⟨fun _ => ⟨rfl, rfl⟩, rfl, rfl⟩
theorem Sam.trans {s s' s2 : St} {k : Nat} (h : Sam s s' k) (h2 : Sam s' s2 k) : Sam s s2 k := ⟨fun p => ⟨(h2.1 p).1.trans (h.1 p).1, (h2.1 p).2.trans (h.1 p).2⟩, h2.2.1.trans h.2.1, h2.2.2.trans h.2.2⟩
theorem Sam.fsh {P T : Nat} {s s' : St} {k : Nat} (h : Sam s s' k) (q : Fsh P T s k) : Fsh P T s' k := ⟨fun p hp => ⟨by rw [(h.1 p).1]; exact (q.1 p hp).1, by rw [(h.1 p).2]; exact (q.1 p hp).2⟩, by rw [h.2.1]; exact q.2.1, by rw [h.2.2]; exact q.2.2⟩
theorem Sam.nul {P T : Nat} {s s' : St} {k : Nat} (h : Sam s s' k) (q : Nul P T s k) : Nul P T s' k := fun p hp => by rw [(h.1 p).1]; exact q p hp
theorem sam_edo {P T : Nat} {pl : Pln} {s : St} {k j : Nat} (h : j ≠ k) : Sam s (edo P T pl s k) j := by
  refine ⟨fun p => ⟨?_, ?_⟩, ?_, ?_⟩
  · show (if j = k then _ else _) = _; rw [if_neg h]
  · show (if j = k ∧ _ then _ else _) = _; rw [if_neg fun q => h q.1]
  · show (if j = k ∧ _ then _ else _) = _; rw [if_neg fun q => h q.1]
  · show (if j = k ∧ _ then _ else _) = _; rw [if_neg fun q => h q.1]
theorem sam_sdo {P T : Nat} {pl : Pln} {s : St} {k j : Nat} (h : j ≠ k) : Sam s (sdo P T pl s k) j := by
  refine ⟨fun p => ⟨?_, rfl⟩, rfl, ?_⟩
  · show (if j = k then _ else _) = _; rw [if_neg h]
  · exact at1_other _ _ _ _ h
theorem sam_pdo {T : Nat} {pl : Pln} {s : St} {k p j : Nat} {d : List Int} (h : j ≠ k) : Sam s (pdo T pl s k p d) j :=
  ⟨fun _ => ⟨at2_other _ _ _ _ _ _ fun z => h z.1, at2_other _ _ _ _ _ _ fun z => h z.1⟩, at1_other _ _ _ _ h, rfl⟩
theorem sam_prg {N P T : Nat} {pl : Pln} {s : St} {k p j : Nat} {d : List Int} (h : j ≠ k) : Sam s (prg N P T pl s k p d).1 j := by
  unfold prg
  split
  · exact Sam.refl _ _
  · exact sam_pdo h
theorem sam_wri {N P T : Nat} {pl : Pln} {l : List (List Int)} {k j : Nat} (h : j ≠ k) : ∀ (m : Nat) (s : St) (i : Nat), Sam s (wri N P T pl l k m s i).1 j
  | 0, s, _ => Sam.refl s j
  | m + 1, s, i => by
    unfold wri
    split
    · exact (sam_prg h).trans (sam_wri h m _ _)
    · exact sam_prg h
theorem edo_fsh {P T : Nat} {pl : Pln} {s : St} {k : Nat} (h : pl (ops s) = none) : Fsh P T (edo P T pl s k) k := by
  refine ⟨fun p _ => ⟨?_, ?_⟩, ?_, ?_⟩
  · show (if k = k then ern P T (pl (ops s)) _ p else _) = _; rw [if_pos rfl, h]; rfl
  · show (if k = k ∧ (pl (ops s)).isNone = true then (0 : Int) else _) = 0; rw [if_pos ⟨rfl, by rw [h]; rfl⟩]
  · show (if k = k ∧ (pl (ops s)).isNone = true then (-1 : Int) else _) = -1; rw [if_pos ⟨rfl, by rw [h]; rfl⟩]
  · show (if k = k ∧ (pl (ops s)).isNone = true then false else _) = false; rw [if_pos ⟨rfl, by rw [h]; rfl⟩]
theorem sdo_nul {P T : Nat} {pl : Pln} {s : St} {k : Nat} (h : pl (ops s) = none) : Nul P T (sdo P T pl s k) k := fun p _ => by
  show (if k = k then scn P T (pl (ops s)) _ p else _) = _
  rw [if_pos rfl, h]; rfl
theorem jk_sam {P T : Nat} {b b' : Bx} {k : Nat} (h : Jk P T b k) (hs : Sam b.s b'.s k) (h1 : b'.cln k = b.cln k) (h2 : b'.bad k = b.bad k) (h3 : b'.lk k = b.lk k) : Jk P T b' k :=
  ⟨fun q => hs.fsh (h.1 (by rw [← h1]; exact q)), fun q r => by
    rcases h.2 (by rw [← h2]; exact q) (by rw [← h3]; exact r) with z | z
    · exact .inl (by rw [h1]; exact z)
    · exact .inr (hs.nul z)⟩
theorem dst_j {P T : Nat} {pl : Pln} {b : Bx} {k : Nat} (h : ∀ j, j < 4 → j ≠ k → Jk P T b j) (ha : (dst P T pl b k).2 ≠ 4) : J P T (dst P T pl b k).1 ∧ ((dst P T pl b k).2 = 0 ∨ (dst P T pl b k).2 = 5) ∧
    ((dst P T pl b k).2 = 0 → (dst P T pl b k).1.cln k = true) ∧ ((dst P T pl b k).1.cln k = true ∨ (dst P T pl b k).1.bad k = true) := by
  unfold dst at ha ⊢
  split at ha
  · exact absurd rfl ha
  · rename_i h0
    rw [if_neg h0]
    split at ha
    · rename_i hp
      refine ⟨fun j hj => ?_, .inl rfl, fun _ => at1_same _ _ _, .inl (at1_same _ _ _)⟩
      by_cases e : j = k
      · subst e
        exact ⟨fun _ => edo_fsh hp, fun _ _ => .inl (at1_same _ _ _)⟩
      · exact jk_sam (h j hj e) (sam_edo e) (at1_other _ _ _ _ e) rfl (at1_other _ _ _ _ e)
    · exact absurd rfl ha
    · rename_i m hp
      split at ha
      · rename_i hq
        refine ⟨fun j hj => ?_, .inr rfl, fun z => absurd (show (5 : Int) = 0 from z) (by decide), .inr (at1_same _ _ _)⟩
        by_cases e : j = k
        · subst e
          exact ⟨fun q => absurd (show at1 b.cln j false j = true from q) (by rw [at1_same]; exact Bool.false_ne_true), fun _ _ => .inr (sdo_nul hq)⟩
        · exact jk_sam (h j hj e) ((sam_edo e).trans (sam_sdo e)) (at1_other _ _ _ _ e) (at1_other _ _ _ _ e) (at1_other _ _ _ _ e)
      · exact absurd rfl ha
      · rename_i hq
        refine ⟨fun j hj => ?_, .inr rfl, fun z => absurd (show (5 : Int) = 0 from z) (by decide), .inr (at1_same _ _ _)⟩
        by_cases e : j = k
        · subst e
          exact ⟨fun q => absurd (show at1 b.cln j false j = true from q) (by rw [at1_same]; exact Bool.false_ne_true), fun _ q => absurd (show at1 b.lk j true j = false from q) (by rw [at1_same]; decide)⟩
        · exact jk_sam (h j hj e) ((sam_edo e).trans (sam_sdo e)) (at1_other _ _ _ _ e) (at1_other _ _ _ _ e) (at1_other _ _ _ _ e)
theorem dst_fl {P T : Nat} {pl : Pln} {b : Bx} {k j : Nat} (h : j ≠ k) : (dst P T pl b k).1.cln j = b.cln j ∧ (dst P T pl b k).1.bad j = b.bad j ∧ (dst P T pl b k).1.lk j = b.lk j := by
  unfold dst
  split
  · exact ⟨rfl, rfl, rfl⟩
  · split
    · exact ⟨at1_other _ _ _ _ h, rfl, at1_other _ _ _ _ h⟩
    · exact ⟨rfl, rfl, rfl⟩
    · split
      · exact ⟨at1_other _ _ _ _ h, at1_other _ _ _ _ h, at1_other _ _ _ _ h⟩
      · exact ⟨at1_other _ _ _ _ h, at1_other _ _ _ _ h, rfl⟩
      · exact ⟨at1_other _ _ _ _ h, at1_other _ _ _ _ h, at1_other _ _ _ _ h⟩
theorem dst_cur {P T : Nat} {pl : Pln} {b : Bx} {k : Nat} : (dst P T pl b k).1.cur = b.cur ∧ (dst P T pl b k).1.gen = b.gen := by
  unfold dst
  split
  · exact ⟨rfl, rfl⟩
  · split
    · exact ⟨rfl, rfl⟩
    · exact ⟨rfl, rfl⟩
    · split <;> exact ⟨rfl, rfl⟩
theorem dst_sam {P T : Nat} {pl : Pln} {b : Bx} {k j : Nat} (h : j ≠ k) : Sam b.s (dst P T pl b k).1.s j := by
  unfold dst
  split
  · exact Sam.refl _ _
  · split
    · exact sam_edo h
    · exact sam_edo h
    · split
      · exact (sam_edo h).trans (sam_sdo h)
      · exact (sam_edo h).trans (sam_sdo h)
      · exact (sam_edo h).trans (sam_sdo h)
theorem dst_ops {P T : Nat} {pl : Pln} {b : Bx} {k : Nat} : ops (dst P T pl b k).1.s ≤ ops b.s + 2 := by
  unfold dst
  split
  · exact Nat.le_add_right _ _
  · split
    · exact Nat.le_succ _
    · exact Nat.le_succ _
    · split <;> exact Nat.le_refl _
theorem prg_ops {N P T : Nat} {pl : Pln} {s : St} {k p : Nat} {d : List Int} : ops (prg N P T pl s k p d).1 ≤ ops s + 1 := by
  unfold prg
  split
  · exact Nat.le_succ _
  · exact Nat.le_refl _
theorem wri_ops {N P T : Nat} {pl : Pln} {l : List (List Int)} {k : Nat} : ∀ (m : Nat) (s : St) (i : Nat), ops (wri N P T pl l k m s i).1 ≤ ops s + m
  | 0, s, _ => Nat.le_refl _
  | m + 1, s, i => by
    unfold wri
    have h1 := prg_ops (N := N) (P := P) (T := T) (pl := pl) (s := s) (k := k) (p := wpl l i) (d := wth T l i)
    split
    · have h2 := wri_ops (N := N) (P := P) (T := T) (pl := pl) (l := l) (k := k) m (prg N P T pl s k (wpl l i) (wth T l i)).1 (i + 1)
      omega
    · omega
theorem tr2_ops {N P T : Nat} {pl : Pln} {b : Bx} {k : Nat} {l : List (List Int)} : ops (tr2 N P T pl b k l).1.s ≤ ops b.s + l.length + 3 := by
  have h1 := wri_ops (N := N) (P := P) (T := T) (pl := pl) (l := l) (k := k) (l.length + 1) b.s 0
  unfold tr2
  simp only []
  split
  · show ops (wri N P T pl l k (l.length + 1) b.s 0).1 ≤ _
    omega
  · have h2 := dst_ops (P := P) (T := T) (pl := pl) (b := { b with s := (wri N P T pl l k (l.length + 1) b.s 0).1, cln := at1 b.cln k false, bad := at1 b.bad k true }) (k := k)
    split
    · refine Nat.le_trans h2 ?_
      show ops (wri N P T pl l k (l.length + 1) b.s 0).1 + 2 ≤ _
      omega
    · refine Nat.le_trans h2 ?_
      show ops (wri N P T pl l k (l.length + 1) b.s 0).1 + 2 ≤ _
      omega
theorem tr1_ops {N P T : Nat} {pl : Pln} {b : Bx} {k : Nat} {l : List (List Int)} : ops (tr1 N P T pl b k l).1.s ≤ ops b.s + l.length + 5 := by
  unfold tr1
  split
  · have := tr2_ops (N := N) (P := P) (T := T) (pl := pl) (b := b) (k := k) (l := l)
    omega
  · have h1 := dst_ops (P := P) (T := T) (pl := pl) (b := b) (k := k)
    split
    · have := tr2_ops (N := N) (P := P) (T := T) (pl := pl) (b := (dst P T pl b k).1) (k := k) (l := l)
      omega
    · omega
theorem oth_j {P T : Nat} {pl : Pln} : ∀ (m : Nat) (b : Bx) (k : Nat), J P T b → (oth P T pl m b k).2 ≠ 4 → J P T (oth P T pl m b k).1 ∧ (oth P T pl m b k).2 = 0 ∧ (oth P T pl m b k).1.cur = b.cur ∧ (oth P T pl m b k).1.gen = b.gen ∧
    (∀ j, j < k → (oth P T pl m b k).1.cln j = b.cln j ∧ (oth P T pl m b k).1.bad j = b.bad j) ∧ ∀ j, k ≤ j → j < k + m → (j : Int) ≠ b.cur → (oth P T pl m b k).1.cln j = true ∨ (oth P T pl m b k).1.bad j = true
  | 0, b, k, h, _ => ⟨h, rfl, rfl, rfl, fun _ _ => ⟨rfl, rfl⟩, fun j h1 h2 => absurd h2 (by omega)⟩
  | m + 1, b, k, h, ha => by
    unfold oth at ha ⊢
    split at ha
    · rename_i hq
      rw [if_pos hq]
      obtain ⟨z1, z2, z3, z4, z5, z6⟩ := oth_j m b (k + 1) h ha
      refine ⟨z1, z2, z3, z4, fun j hj => z5 j (by omega), fun j h1 h2 h3 => ?_⟩
      by_cases e : j = k
      · subst e
        rw [(z5 j (by omega)).1, (z5 j (by omega)).2]
        rcases hq with q | q | q
        · exact absurd q h3
        · exact .inl q
        · exact .inr q.1
      · exact z6 j (by omega) (by omega) h3
    · rename_i hq
      rw [if_neg hq]
      split at ha
      · rename_i h4
        exact absurd h4 ha
      · rename_i h4
        rw [if_neg h4]
        have dj := dst_j (fun j hj _ => h j hj) h4
        obtain ⟨z1, z2, z3, z4, z5, z6⟩ := oth_j m (dst P T pl b k).1 (k + 1) dj.1 ha
        refine ⟨z1, z2, z3.trans dst_cur.1, z4.trans dst_cur.2, fun j hj => ?_, fun j h1 h2 h3 => ?_⟩
        · have f := dst_fl (P := P) (T := T) (pl := pl) (b := b) (k := k) (j := j) (by omega)
          exact ⟨(z5 j (by omega)).1.trans f.1, (z5 j (by omega)).2.trans f.2.1⟩
        · by_cases e : j = k
          · subst e
            rw [(z5 j (by omega)).1, (z5 j (by omega)).2]
            exact dj.2.2.2
          · exact z6 j (by omega) (by omega) (by rw [dst_cur.1]; exact h3)
end Go.Proofs.YtakibiigcdgohaaGreatDoor.vb
