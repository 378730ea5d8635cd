/- Texts put together (a claim holds few files). No claim of its own. -/
import Derived.Test.YtbkaecjkgjkheaaDoorPackA
import Derived.Deep.DeepHandedRow
import Derived.Lib.LaidTab
import Derived.Deep.Matrix
import Derived.Test.YtbkaecjkgjkheaaDoorPackB
import Derived.Test.YtbkaecjkgjkheaaDoorRows
import Derived.WalkKit
import Derived.Deep.QuietTactic
/- How a statement is closed once its call is known to return true and to leave all that was there as it was; what an argument that is a slice of bytes holds. No claim of its own. -/
namespace Go.Proofs.YtbkaecjkgjkheaaDoor
open Go.ChangeShapes Go.WideShapes Go.ChangeAt Go.RowKit
set_option maxRecDepth 20000

theorem laidOut : laidOutB Tryd.prog = true := by kernel_rfl

theorem trodAll_below {H : Type} {enc : TypeId × Value → H} {W W' : World} (hb : Below W.heap.size W W') :
    ∀ (ts : List TypeId) (vs : List Value) (ds : List (DataW H)) (ps : List MemPlace), (∀ t ∈ ts, Tryd.prog.readableRec t = true ∧ t < Tryd.prog.types.size) → (∀ x ∈ ps, x.block < W.heap.size) →
      DataW.TrodAll enc Tryd.prog W 0 (fun _ => true) true ts vs ds ps → DataW.TrodAll enc Tryd.prog W' 0 (fun b => decide (b < W.heap.size)) true ts vs ds ps
  | [], [], [], _, _, _, h => h
  | t :: ts, v :: vs, d :: ds, ps, ht, hp, h => by
    obtain ⟨p, q, h1, h2, rfl⟩ := h
    have t1 := ht t (by simp)
    exact ⟨p, q, Below.trod laidOut t1.1 t1.2 h1 hb (fun x hx => hp x (by simp [hx])), trodAll_below hb ts vs ds q (fun t h => ht t (by simp [h])) (fun x hx => hp x (by simp [hx])) h2, rfl⟩

theorem post_law {H : Type} {enc : TypeId × Value → H} {s : ChangeSpec} {f : Func} {W W' : World} {args : Array Value} {ds gs : List (DataW H)} {before : List MemPlace}
    (hv : s.vars = []) (hr : f.resultTypes = #[4]) (hts : ∀ t ∈ f.params.toList, Tryd.prog.readableRec t = true ∧ t < Tryd.prog.types.size)
    (hres : (s.fn H (ds ++ gs)).results = [.lit (.bool true)]) (hargs : (s.fn H (ds ++ gs)).args = ds) (hvars : (s.fn H (ds ++ gs)).vars = [])
    (hW : DataW.Whole enc Tryd.prog f.params.toList s.vars false W args.toList ds gs before) (hb : Below W.heap.size W W') :
    s.post enc Tryd.prog f false true false false W args (.bool true) W' := by
  have hW' := hW
  have hlt := hW.lt
  obtain ⟨p, q, hA, hV, hpq, hfz, hnd⟩ := hW
  refine ⟨ds, gs, before, [], p, [], hW', ?_, ?_, ?_, hb.frame _, fun h => by cases h⟩
  · rw [hres, hr]
    exact trodAll_mk1 (shut_bool Tryd.underlying4 _)
  · rw [hargs]
    exact trodAll_below hb _ _ _ _ hts (fun x hx => by simpa using hlt x (by rw [hpq]; simp [hx])) hA
  · rw [hvars, hv]; rfl

set_option maxRecDepth 20000 in
/-- an argument that is a slice of bytes holds bytes -/
theorem byt_open {H : Type} {enc : TypeId × Value → H} {W : World} {base : Nat} {v : Value} {d : DataW H} {ps : List MemPlace}
    (ok : Value.okWide Tryd.prog W .any base 22 v) (h : DataW.Trod enc Tryd.prog W 0 (fun _ => true) true 22 v d ps) : ∃ xs, Byt W v xs := by
  obtain ⟨a0, len, cap, rfl⟩ := okWide_slice Tryd.underlying22 ok
  obtain ⟨fuel, hf⟩ := h
  rcases open_ints Tryd.underlying22 Tryd.underlying5 cells_u8 hf with ⟨hcs, hx⟩ | ⟨a, len', cap', zs, hcs, _, hl, hm, hz, hx, hcell, hwz⟩
  · simp [Value.cells] at hcs
    obtain ⟨rfl, rfl, rfl⟩ := hcs
    exact ⟨[], Byt.nil W⟩
  · simp [Value.cells] at hcs
    obtain ⟨rfl, rfl, rfl⟩ := hcs
    simp at hz
    have hlen : (zs.take len).length = len := by simp; omega
    have hgb : ∀ t, t < len → gb (zs.take len) t = zs.getD t 0 := fun t ht => by simp [gb, List.getD, ht]
    refine ⟨zs.take len, some a, cap, by rw [hlen], by omega, by simpa [maxLen] using hm, allB_mem fun x hx => bounds_u8 (hwz x (List.mem_of_mem_take hx)), (by intro h; cases h), fun hp => ?_⟩
    obtain ⟨b, off, rfl, hc⟩ := ints_at hcell (by omega)
    refine ⟨b, off, rfl, fun t ht => ?_⟩
    rw [hgb t (by omega)]
    exact hc t (by omega)
theorem nat_of {x : Int} (h : 0 ≤ x ∧ x ≤ 255) : ∃ a : Nat, x = a ∧ a < 256 := ⟨x.toNat, by omega, by omega⟩
end Go.Proofs.YtbkaecjkgjkheaaDoor

/- What sbox's Subs and Backs answer; that the program answers at all. No claim of its own. -/
namespace Go.Proofs.YtbkaecjkgjkheaaDoor
open Go.RowKit
set_option maxRecDepth 20000

theorem ptab_allB : AllB ptab := allB_mem fun x hx => by
  have h : ptab.all (fun x => decide (0 ≤ x ∧ x ≤ 255)) = true := by decide +kernel
  simpa using List.all_eq_true.1 h x hx
theorem btab_allB : AllB btab := allB_mem fun x hx => by
  have h : btab.all (fun x => decide (0 ≤ x ∧ x ≤ 255)) = true := by decide +kernel
  simpa using List.all_eq_true.1 h x hx

set_option maxHeartbeats 2000000 in
theorem subs_any (v : Value) (xs : List Int) (w : World) (hv : Byt w v xs) (hmax : xs.length ≤ 1048576) :
    Calls Tryd.prog 67 #[v] w fun e w' => ∃ v', e = .returned v' ∧ Byt w' v' (looked ptab xs) ∧ Below w.heap.size w w' := by
  have HV : Hid (Byt w v xs) := hv
  have HM : Hid (xs.length ≤ 1048576) := hmax
  clear hv hmax
  go_enter Tryd.func67, Tryd.ntmps67
  go_wp2_with (first
    | (go_at_call 89; refine (look_any v xs ptab _ (HV.out.below B1) ptab_len ptab_allB HM.out).mono ?_; rintro e w2 ⟨v2, rfl, Y2, B2⟩)
    | (go_at_call 90; refine (puts_any _).mono ?_; rintro e w1 ⟨rfl, B1⟩))
  go_ret
  exact ⟨_, rfl, Y2, B1.trans (B2.mono B1.size)⟩

set_option maxHeartbeats 2000000 in
theorem backsl_any (v : Value) (xs : List Int) (w : World) (hv : Byt w v xs) (hmax : xs.length ≤ 1048576) :
    Calls Tryd.prog 72 #[v] w fun e w' => ∃ v', e = .returned v' ∧ Byt w' v' (looked btab xs) ∧ Below w.heap.size w w' := by
  have HV : Hid (Byt w v xs) := hv
  have HM : Hid (xs.length ≤ 1048576) := hmax
  clear hv hmax
  go_enter Tryd.func72, Tryd.ntmps72
  go_wp2_with (first
    | (go_at_call 89; refine (look_any v xs btab _ (HV.out.below B1) btab_len btab_allB HM.out).mono ?_; rintro e w2 ⟨v2, rfl, Y2, B2⟩)
    | (go_at_call 92; refine (backs_any _).mono ?_; rintro e w1 ⟨rfl, B1⟩))
  go_ret
  exact ⟨_, rfl, Y2, B1.trans (B2.mono B1.size)⟩

theorem sb_83 : sb 83 = 237 := by decide +kernel
theorem sk_237 : sk 237 = 83 := by decide +kernel
end Go.Proofs.YtbkaecjkgjkheaaDoor

/- What sbox's Word answers. No claim of its own. -/
namespace Go.Proofs.YtbkaecjkgjkheaaDoor
open Go.RowKit
set_option maxRecDepth 20000

/-- byte i of a word, from below -/
def wb (x i : Nat) : Nat := x / 256 ^ i % 256
theorem wb_lt (x i : Nat) : wb x i < 256 := Nat.mod_lt _ (by omega)
/-- what is put for the first k bytes of a word -/
def wsum (x : Nat) : Nat → Nat
  | 0 => 0
  | k + 1 => wsum x k + 256 ^ k * sb (wb x k)
theorem wsum_lt (x k : Nat) : wsum x k < 256 ^ k := by
  induction k with
  | zero => simp [wsum]
  | succ k ih =>
    have h := sb_lt _ (wb_lt x k)
    have : 256 ^ k * sb (wb x k) ≤ 256 ^ k * 255 := Nat.mul_le_mul_left _ (by omega)
    rw [wsum, Nat.pow_succ]; omega
theorem join4 (a b c d : Nat) (ha : a < 256) (hb : b < 256) (hc : c < 256) (hd : d < 256) :
    bits .or .u32 (bits .or .u32 (bits .or .u32 (IntKind.u32.wrap (IntKind.u32.wrap (a : Int) * 16777216)) (IntKind.u32.wrap (IntKind.u32.wrap (b : Int) * 65536))) (IntKind.u32.wrap (IntKind.u32.wrap (c : Int) * 256))) (IntKind.u32.wrap (d : Int)) = ((a * 16777216 + b * 65536 + c * 256 + d : Nat) : Int) := by
  have e1 : IntKind.u32.wrap (IntKind.u32.wrap (a : Int) * 16777216) = ((2 ^ 24 * a : Nat) : Int) := by rw [IntKind.wrap_u32', IntKind.wrap_u32']; omega
  have e2 : IntKind.u32.wrap (IntKind.u32.wrap (b : Int) * 65536) = ((2 ^ 16 * b : Nat) : Int) := by rw [IntKind.wrap_u32', IntKind.wrap_u32']; omega
  have e3 : IntKind.u32.wrap (IntKind.u32.wrap (c : Int) * 256) = ((2 ^ 8 * c : Nat) : Int) := by rw [IntKind.wrap_u32', IntKind.wrap_u32']; omega
  have e4 : IntKind.u32.wrap (d : Int) = (d : Int) := by rw [IntKind.wrap_u32']; omega
  rw [e1, e2, e3, e4, u32_or_nat _ _ (by omega) (by omega), ← Nat.two_pow_add_eq_or_of_lt (by omega) a]
  rw [show 2 ^ 24 * a + 2 ^ 16 * b = 2 ^ 16 * (256 * a + b) by omega, u32_or_nat _ _ (by omega) (by omega), ← Nat.two_pow_add_eq_or_of_lt (by omega) (256 * a + b)]
  rw [show 2 ^ 16 * (256 * a + b) + 2 ^ 8 * c = 2 ^ 8 * (65536 * a + 256 * b + c) by omega, u32_or_nat _ _ (by omega) (by omega), ← Nat.two_pow_add_eq_or_of_lt (by omega) (65536 * a + 256 * b + c)]
  omega

set_option maxRecDepth 20000 in
set_option maxHeartbeats 2000000 in
theorem word_any (x : Nat) (w : World) :
    Calls Tryd.prog 94 #[.int .u32 x] w fun e w' => e = .returned (.int .u32 (wsum x 4)) ∧ Below w.heap.size w w' := by
  have h3 : IntKind.u8.wrap ((x : Int) / 16777216) = (wb x 3 : Int) := by rw [IntKind.wrap_u8']; simp only [wb]; omega
  have h2 : IntKind.u8.wrap ((x : Int) / 65536) = (wb x 2 : Int) := by rw [IntKind.wrap_u8']; simp only [wb]; omega
  have h1 : IntKind.u8.wrap ((x : Int) / 256) = (wb x 1 : Int) := by rw [IntKind.wrap_u8']; simp only [wb]; omega
  have h0 : IntKind.u8.wrap (x : Int) = (wb x 0 : Int) := by rw [IntKind.wrap_u8']; simp only [wb]; omega
  have l3 := wb_lt x 3
  have l2 := wb_lt x 2
  have l1 := wb_lt x 1
  have l0 := wb_lt x 0
  have g3 := gb_p _ l3
  have g2 := gb_p _ l2
  have g1 := gb_p _ l1
  have g0 := gb_p _ l0
  have m3 := sb_lt _ l3
  have m2 := sb_lt _ l2
  have m1 := sb_lt _ l1
  have m0 := sb_lt _ l0
  have HW : Hid (wsum x 4 = sb (wb x 3) * 16777216 + sb (wb x 2) * 65536 + sb (wb x 1) * 256 + sb (wb x 0)) := by
    show _ = _
    simp only [wsum]; omega
  have HJ : Hid (sb (wb x 3) < 256 ∧ sb (wb x 2) < 256 ∧ sb (wb x 1) < 256 ∧ sb (wb x 0) < 256) := ⟨m3, m2, m1, m0⟩
  clear m3 m2 m1 m0
  generalize wsum x 4 = r at *
  generalize wb x 3 = i3 at *
  generalize wb x 2 = i2 at *
  generalize wb x 1 = i1 at *
  generalize wb x 0 = i0 at *
  generalize sb i3 = s3 at *
  generalize sb i2 = s2 at *
  generalize sb i1 = s1 at *
  generalize sb i0 = s0 at *
  have HG : Hid (gb ptab i3 = (s3 : Int) ∧ gb ptab i2 = (s2 : Int) ∧ gb ptab i1 = (s1 : Int) ∧ gb ptab i0 = (s0 : Int)) := ⟨g3, g2, g1, g0⟩
  clear g3 g2 g1 g0
  go_enter Tryd.func94, Tryd.ntmps94
  go_wp2_with (first
    | (go_at_call 90; refine (puts_any _).mono ?_; rintro e w1 ⟨rfl, B1⟩)
    | (have q1 := B1; refine new_lawF _ rfl 117 rfl .u8 z256 z_arr256 ?_; intro w2 A2 B2 z2; have HA2 : Hid (Ar w2 w1.heap.size 0 .u8 z256) := A2; clear A2)
    | (refine store_lawF _ rfl (.tmp 3) (.tmp 4) 117 rfl .u8 z256 ptab w1.heap.size rfl rfl HA2.out 256 i_arr256 z256_len ptab_len ?_; intro w3 A3 B3; have HA3 : Hid (Ar w3 w1.heap.size 0 .u8 ptab) := A3; clear A3))
  have c3 := HA3.out.cell0 i3 (by rw [ptab_len]; exact l3)
  have c2 := HA3.out.cell0 i2 (by rw [ptab_len]; exact l2)
  have c1 := HA3.out.cell0 i1 (by rw [ptab_len]; exact l1)
  have c0 := HA3.out.cell0 i0 (by rw [ptab_len]; exact l0)
  rw [HG.out.1] at c3
  rw [HG.out.2.1] at c2
  rw [HG.out.2.2.1] at c1
  rw [HG.out.2.2.2] at c0
  have o3 : (i3 : Int) < 256 := by omega
  have o2 : (i2 : Int) < 256 := by omega
  have o1 : (i1 : Int) < 256 := by omega
  have o0 : (i0 : Int) < 256 := by omega
  go_quiet (fail)
  go_wp2
  go_ret
  refine ⟨ret_int ?_, below_drewN ((B1.trans (B2.mono (by have := B1.size; omega))).trans (B3.mono (by have := B1.size; omega))) _⟩
  rw [HW.out]
  exact join4 s3 s2 s1 s0 HJ.out.1 HJ.out.2.1 HJ.out.2.2.1 HJ.out.2.2.2
end Go.Proofs.YtbkaecjkgjkheaaDoor

/- Words of four bytes as numbers: xored, put for, rotated. No claim of its own. -/
namespace Go.Proofs.YtbkaecjkgjkheaaDoor
open Go.RowKit
set_option maxRecDepth 20000

/-- the number of four bytes, the greatest first -/
def n4 (x : List Int) : Nat := (gb x 0).toNat * 16777216 + (gb x 1).toNat * 65536 + (gb x 2).toNat * 256 + (gb x 3).toNat
theorem wd_bd {x : List Int} (h : Wd x) (i : Nat) : (gb x i).toNat < 256 ∧ gb x i = ((gb x i).toNat : Int) := by have := h.2 i; omega
theorem n4_lt (x : List Int) (h : Wd x) : n4 x < 4294967296 := by
  have h0 := (wd_bd h 0).1
  have h1 := (wd_bd h 1).1
  have h2 := (wd_bd h 2).1
  have h3 := (wd_bd h 3).1
  unfold n4; omega
theorem join_xor (k a b c d : Nat) (hb : b < 2 ^ k) (hd : d < 2 ^ k) : (2 ^ k * a + b) ^^^ (2 ^ k * c + d) = 2 ^ k * (a ^^^ c) + (b ^^^ d) := by
  apply Nat.eq_of_testBit_eq
  intro j
  rw [Nat.testBit_xor, Nat.testBit_two_pow_mul_add a hb j, Nat.testBit_two_pow_mul_add c hd j, Nat.testBit_two_pow_mul_add (a ^^^ c) (Nat.xor_lt_two_pow hb hd) j]
  by_cases h : j < k
  · simp [h]
  · simp [h]
theorem n4_form (x : List Int) : n4 x = 2 ^ 8 * (2 ^ 8 * (2 ^ 8 * (gb x 0).toNat + (gb x 1).toNat) + (gb x 2).toNat) + (gb x 3).toNat := by unfold n4; omega
theorem n4_xor (x y : List Int) (hx : Wd x) (hy : Wd y) : n4 (xorl x y) = n4 x ^^^ n4 y := by
  have hl : x.length = y.length := by rw [hx.1, hy.1]
  have e : ∀ i, i < 4 → (gb (xorl x y) i).toNat = (gb x i).toNat ^^^ (gb y i).toNat := fun i hi => by
    rw [xorl_gb x y hl i (by rw [hx.1]; exact hi)]
    simp [xr]
  have x1 := (wd_bd hx 1).1
  have x2 := (wd_bd hx 2).1
  have x3 := (wd_bd hx 3).1
  have y1 := (wd_bd hy 1).1
  have y2 := (wd_bd hy 2).1
  have y3 := (wd_bd hy 3).1
  rw [n4_form, n4_form x, n4_form y, e 0 (by omega), e 1 (by omega), e 2 (by omega), e 3 (by omega), join_xor 8 _ _ _ _ x3 y3, join_xor 8 _ _ _ _ x2 y2, join_xor 8 _ _ _ _ x1 y1]
theorem wb_n4 (x : List Int) (h : Wd x) : wb (n4 x) 0 = (gb x 3).toNat ∧ wb (n4 x) 1 = (gb x 2).toNat ∧ wb (n4 x) 2 = (gb x 1).toNat ∧ wb (n4 x) 3 = (gb x 0).toNat := by
  have h0 := (wd_bd h 0).1
  have h1 := (wd_bd h 1).1
  have h2 := (wd_bd h 2).1
  have h3 := (wd_bd h 3).1
  unfold wb n4
  refine ⟨?_, ?_, ?_, ?_⟩ <;> omega
theorem wsum_n4 (x : List Int) (h : Wd x) : wsum (n4 x) 4 = n4 (looked ptab x) := by
  obtain ⟨e0, e1, e2, e3⟩ := wb_n4 x h
  have g : ∀ i, i < 4 → (gb (looked ptab x) i).toNat = sb (gb x i).toNat := fun i hi => by
    rw [looked_gb _ _ _ (by rw [h.1]; exact hi), gb_p _ (wd_bd h i).1, Int.toNat_natCast]
  simp only [wsum, e0, e1, e2, e3]
  rw [n4, g 0 (by omega), g 1 (by omega), g 2 (by omega), g 3 (by omega)]
  omega
/-- rotated by one byte -/
def rot1 (x : List Int) : List Int := [gb x 1, gb x 2, gb x 3, gb x 0]
theorem rot1_wd (x : List Int) (h : Wd x) : Wd (rot1 x) := wd4 _ _ _ _ (h.2 1) (h.2 2) (h.2 3) (h.2 0)
theorem n4_rot (x : List Int) (h : Wd x) : n4 (rot1 x) = n4 x * 256 % 4294967296 + n4 x / 16777216 := by
  have h0 := (wd_bd h 0).1
  have h1 := (wd_bd h 1).1
  have h2 := (wd_bd h 2).1
  have h3 := (wd_bd h 3).1
  show (gb x 1).toNat * 16777216 + (gb x 2).toNat * 65536 + (gb x 3).toNat * 256 + (gb x 0).toNat = _
  unfold n4
  omega
theorem four_gb (x : List Int) (h : x.length = 4) : x = [gb x 0, gb x 1, gb x 2, gb x 3] := by
  match x, h with
  | [a, b, c, d], _ => rfl
theorem looked_wd (x : List Int) (h : x.length = 4) : Wd (looked ptab x) := ⟨by rw [looked_len, h], looked_all _ _ pAll⟩
/-- what is xored to the word eight ahead, as a number -/
theorem n4_mid (i : Nat) (x : List Int) (h : Wd x) : n4 (mid i x) = if i % 8 = 0 then wsum (n4 x * 256 % 4294967296 + n4 x / 16777216) 4 ^^^ pw 2 (i / 8 - 1) * 16777216 else if i % 8 = 4 then wsum (n4 x) 4 else n4 x := by
  by_cases h0 : i % 8 = 0
  · rw [if_pos h0, ← n4_rot x h, wsum_n4 _ (rot1_wd x h)]
    have hp := pw_lt 2 (i / 8 - 1)
    have hr := looked_wd (rot1 x) rfl
    have e : mid i x = xorl (looked ptab (rot1 x)) [(pw 2 (i / 8 - 1) : Int), 0, 0, 0] := by
      have hz : ∀ a : Int, 0 ≤ a → xr a 0 = a := fun a ha => by simp [xr]; omega
      have hb := pAll
      unfold mid
      rw [if_pos h0]
      show _ = [xr (gb ptab (gb x 1).toNat) (pw 2 (i / 8 - 1) : Int), xr (gb ptab (gb x 2).toNat) 0, xr (gb ptab (gb x 3).toNat) 0, xr (gb ptab (gb x 0).toNat) 0]
      rw [hz _ (hb _).1, hz _ (hb _).1, hz _ (hb _).1]
    rw [e, n4_xor _ _ hr (wd4 _ _ _ _ (by omega) (by omega) (by omega) (by omega))]
    have e2 : n4 [(pw 2 (i / 8 - 1) : Int), 0, 0, 0] = pw 2 (i / 8 - 1) * 16777216 := by
      generalize pw 2 (i / 8 - 1) = q
      simp [n4, gb]
    rw [e2]
  · rw [if_neg h0]
    by_cases h4 : i % 8 = 4
    · rw [if_pos h4, wsum_n4 x h]
      have e : mid i x = looked ptab x := by
        unfold mid
        rw [if_neg h0, if_pos h4]
        conv => rhs; rw [four_gb x h.1]
        rfl
      rw [e]
    · rw [if_neg h4, mid, if_neg h0, if_neg h4]
/-- word i, as a number -/
def wn (key : List Int) (i : Nat) : Nat := n4 (wd key i)
theorem wn_lt (key : List Int) (hk : key.length = 32) (ha : AllB key) (i : Nat) : wn key i < 4294967296 := n4_lt _ (wd_wd key hk ha i)
theorem wn_eq (key : List Int) (hk : key.length = 32) (ha : AllB key) (i : Nat) (h : 8 ≤ i) :
    wn key i = wn key (i - 8) ^^^ (if i % 8 = 0 then wsum (wn key (i - 1) * 256 % 4294967296 + wn key (i - 1) / 16777216) 4 ^^^ pw 2 (i / 8 - 1) * 16777216 else if i % 8 = 4 then wsum (wn key (i - 1)) 4 else wn key (i - 1)) := by
  have h8 := wd_wd key hk ha (i - 8)
  have h1 := wd_wd key hk ha (i - 1)
  rw [wn, wd_eq, if_neg (by omega), n4_xor _ _ h8 (mid_wd i _ h1), n4_mid i _ h1]
  rfl
theorem wn_first (key : List Int) (i : Nat) (h : i < 8) : wn key i = n4 (cut4 key i) := by rw [wn, wd_eq, if_pos h]
end Go.Proofs.YtbkaecjkgjkheaaDoor

/- What octet's Num answers: the number of the last eight bytes. No claim of its own. -/
namespace Go.Proofs.YtbkaecjkgjkheaaDoor
open Go.RowKit
set_option maxRecDepth 20000

/-- the number of bytes, the greatest first, of sixty-four bits -/
def num : List Int → Int := fun xs => xs.foldl (fun n x => (n * 256) % 18446744073709551616 + x) 0
theorem num_snoc (xs : List Int) (x : Int) : num (xs ++ [x]) = (num xs * 256) % 18446744073709551616 + x := by simp [num]
/-- the last eight -/
def last8 (xs : List Int) : List Int := xs.drop (xs.length - 8)
theorem last8_len (xs : List Int) : (last8 xs).length = min xs.length 8 := by simp [last8]; omega
theorem gb_drop (xs : List Int) (d k : Nat) : gb (xs.drop d) k = gb xs (d + k) := by simp [gb, List.getD]
theorem take_snoc_gb (xs : List Int) (k : Nat) (h : k < xs.length) : xs.take (k + 1) = xs.take k ++ [gb xs k] := by
  rw [List.take_succ_eq_append_getElem h]; simp [gb, List.getD, h]
theorem num_bd (xs : List Int) (h : AllB xs) (k : Nat) (hk : k ≤ xs.length) : 0 ≤ num (xs.take k) ∧ num (xs.take k) ≤ 18446744073709551615 := by
  induction k with
  | zero => simp [num]
  | succ k ih =>
    rw [take_snoc_gb xs k (by omega), num_snoc]
    have := h k
    omega
theorem shl_or (n x : Int) (hx : 0 ≤ x ∧ x ≤ 255) : bits .or .u64 (IntKind.u64.wrap (n * 256)) (IntKind.u64.wrap x) = (n * 256) % 18446744073709551616 + x := by
  have hw : IntKind.u64.wrap x = x := by rw [IntKind.wrap_u64]; omega
  rw [hw, IntKind.wrap_u64]
  have h0 : 0 ≤ n * 256 % 18446744073709551616 := Int.emod_nonneg _ (by decide)
  have h1 : n * 256 % 18446744073709551616 < 18446744073709551616 := Int.emod_lt_of_pos _ (by decide)
  rw [u64_or _ _ h0 h1 hx.1 (by omega), nat_join 8 _ _ (by omega) (by omega)]
  omega

set_option maxHeartbeats 2000000 in
theorem num_any (v : Value) (xs : List Int) (w : World) (hb : Byt w v xs) :
    Calls Tryd.prog 74 #[v] w fun e w' => e = .returned (.int .u64 (num (last8 xs))) ∧ w' = w := by
  have HB := hb
  obtain ⟨ao, cap, rfl, h1, h2, -, -, -⟩ := hb
  have HBB : Hid (Byt w (.slice ao xs.length cap) xs) := HB
  clear HB
  generalize hys : last8 xs = ys
  have hs : ((clamp (xs.length : Int) 8 : Nat) : Int) = min (max (xs.length : Int) 0) 8 := by unfold clamp; omega
  generalize hsd : clamp (xs.length : Int) 8 = s at hs
  have HS : Hid (clamp (xs.length : Int) 8 = s) := hsd
  have hs1 : s ≤ 8 := by omega
  have hs2 : s ≤ xs.length := by omega
  have HL : Hid (xs.drop (xs.length - s) = ys) := by
    show _ = _
    rw [← hys]; unfold last8; congr 1; omega
  clear hsd hs hys
  go_enter Tryd.func74, Tryd.ntmps74
  go_wp2_with (first
    | (go_at_call 37; refine (within_any _ _ _ (by omega)).mono ?_; rintro e w' ⟨rfl, hw⟩; obtain rfl := hw.symm; rw [HS.out])
    | (refine cut_from _ rfl (.tmp 6) (.tmp 12) rfl _ xs _ (xs.length - s) rfl rfl (by omega) (by omega) HBB.out ?_; intro v' hv; rw [HL.out] at hv; obtain ⟨ao', cap', rfl, k1, k2, k3, -, k5⟩ := hv; have K3 : Hid (AllB ys) := k3; have K5 : Hid (0 < ys.length → ∃ b off, ao' = some ⟨b, off, none⟩ ∧ ∀ t, t < ys.length → w.cell? ⟨b, off + t, none⟩ = some (.int .u8 (gb ys t))) := k5; clear k3 k5))
  go_loop [3, 15] (fun n i => ∃ k : Nat, k ≤ ys.length ∧ i = .int .i64 k ∧ n = .int .u64 (num (ys.take k))) (fun _ i => ys.length - (intOf i).toNat)
  case atStart => exact ⟨0, Nat.zero_le _, rfl, rfl⟩
  case round =>
    obtain ⟨k, hk, rfl, rfl⟩ := hrel
    by_cases hlt : k < ys.length
    · obtain ⟨b, off, rfl, hca⟩ := K5.out (by omega)
      have c0 := hca k hlt
      clear hca
      have SN : Hid (num (ys.take (k + 1)) = num (ys.take k) * 256 % 18446744073709551616 + gb ys k) := by
        show _ = _
        rw [take_snoc_gb ys k hlt, num_snoc]
      go_wp2
      go_round
      case rel => exact ⟨k + 1, by omega, by go_num, by rw [SN.out, shl_or _ _ (K3.out k)]⟩
      case measure => simp [intOf]; omega
    · have hks : k = ys.length := by omega
      subst hks
      rw [List.take_length]
      go_wp2
      go_ret
      exact ⟨rfl, rfl⟩
end Go.Proofs.YtbkaecjkgjkheaaDoor

/- What octet's Big, Little, NumLittle and the reference's answer. No claim of its own. -/
namespace Go.Proofs.YtbkaecjkgjkheaaDoor
open Go.RowKit
set_option maxRecDepth 20000

/-- n, shifted by k bytes -/
def sh (n : Int) : Nat → Int
  | 0 => n
  | k + 1 => sh n k / 256
theorem sh_succ (n : Int) (k : Nat) : sh n (k + 1) = sh n k / 256 := rfl
theorem sh_bd (n : Int) (h : 0 ≤ n ∧ n ≤ 18446744073709551615) (k : Nat) : 0 ≤ sh n k ∧ sh n k ≤ 18446744073709551615 := by
  induction k with
  | zero => exact h
  | succ k ih => rw [sh_succ]; omega
/-- the k low bytes of n, the least first -/
def le (n : Int) (k : Nat) : List Int := (List.range k).map fun i => sh n i % 256
theorem le_snoc (n : Int) (k : Nat) : le n (k + 1) = le n k ++ [sh n k % 256] := by simp [le, List.range_succ]
theorem le_len (n : Int) (k : Nat) : (le n k).length = k := by simp [le]
theorem le_all (n : Int) (k : Nat) : AllB (le n k) := allB_mem fun x hx => by
  obtain ⟨i, _, rfl⟩ := List.mem_map.1 hx
  omega
theorem allB_reverse {xs : List Int} (h : AllB xs) : AllB xs.reverse := allB_mem fun x hx => by
  obtain ⟨i, hi, rfl⟩ := List.getElem_of_mem (List.mem_reverse.1 hx)
  have := h i
  simpa [gb, List.getD, hi] using this

def leAt (n : Int) (s k : Nat) : List Int := le n k ++ List.replicate (s - k) 0
theorem leAt_set (n : Int) (s k : Nat) (h : k < s) : (leAt n s k).set k (sh n k % 256) = leAt n s (k + 1) := by
  unfold leAt
  obtain ⟨d, hd⟩ : ∃ d, s - k = d + 1 := ⟨s - k - 1, by omega⟩
  have e : s - (k + 1) = d := by omega
  rw [hd, e, List.set_append_right _ _ (by simp [le_len]), le_snoc]
  simp [le_len, List.replicate_succ]
theorem leAt_end (n : Int) (s : Nat) : leAt n s s = le n s := by simp [leAt]

def beAt (n : Int) (s k : Nat) : List Int := List.replicate (s - k) 0 ++ (le n k).reverse
theorem beAt_set (n : Int) (s k : Nat) (h : k < s) : (beAt n s k).set (s - 1 - k) (sh n k % 256) = beAt n s (k + 1) := by
  unfold beAt
  obtain ⟨d, hd⟩ : ∃ d, s - k = d + 1 := ⟨s - k - 1, by omega⟩
  have e : s - (k + 1) = d := by omega
  have e' : s - 1 - k = d := by omega
  rw [hd, e, e', List.set_append_left _ _ (by simp), le_snoc, List.replicate_succ', List.set_append_right _ _ (by simp)]
  simp
theorem beAt_end (n : Int) (s : Nat) : beAt n s s = (le n s).reverse := by simp [beAt]

set_option maxHeartbeats 2000000 in
theorem big_any (n k0 : Int) (w : World) (hn : 0 ≤ n ∧ n ≤ 18446744073709551615) :
    Calls Tryd.prog 22 #[.int .u64 n, .int .i64 k0] w fun e w' => ∃ v, e = .returned v ∧ Byt w' v (le n (clamp k0 8)).reverse ∧ Below w.heap.size w w' := by
  have hs := clamp_le k0 8 (by omega)
  generalize hsd : clamp k0 8 = s at hs
  have HS : Hid (clamp k0 8 = s) := hsd
  have hn' : Hid (0 ≤ n ∧ n ≤ 18446744073709551615) := hn
  clear hsd hn
  go_enter Tryd.func22, Tryd.ntmps22
  go_wp2_with (first
    | (go_at_call 37; refine (within_any _ _ _ (by omega)).mono ?_; rintro e w' ⟨rfl, hw⟩; obtain rfl := hw.symm; rw [HS.out])
    | (at_make; refine make_law _ rfl _ _ rfl w.heap.size (Nat.le_refl _) _ s rfl rfl rfl (by omega) ?_; intro w1 hown hbel hlt))
  go_loopw [0, 13] (fun m i wr => ∃ k : Nat, k ≤ s ∧ i = .int .i64 k ∧ m = .int .u64 (sh n k) ∧ OwnN w.heap.size wr w.heap.size s (beAt n s k) ∧ Below w.heap.size w wr) (fun _ i _ => s - (intOf i).toNat)
  case atStart => exact ⟨0, Nat.zero_le _, rfl, rfl, by simpa [beAt, le] using hown, hbel⟩
  case round =>
    clear hown hbel
    obtain ⟨k, hk, rfl, rfl, hown, hbel⟩ := hrel
    by_cases hlt' : k < s
    · have c1 := hown.cell (show s - 1 - k < s by omega)
      have c2 := hown.free (s - 1 - k)
      have hown' := hown.set (s - 1 - k) (sh n k % 256)
      rw [beAt_set n s k hlt'] at hown'
      have bd := sh_bd n hn'.out k
      have e1 : IntKind.u8.wrap (sh n k) = sh n k % 256 := IntKind.wrap_u8' _
      have e2 : ((s : Int) - 1 - (k : Int)).toNat = s - 1 - k := by omega
      go_wp2
      go_roundw
      case rel => exact ⟨k + 1, by omega, by go_num, rfl, hown', hbel.setCell (Nat.le_refl _) _⟩
      case measure => simp [intOf]; omega
    · have : k = s := by omega
      subst this
      rw [beAt_end] at hown
      go_wp2
      go_ret
      exact ⟨_, rfl, hown.byt (allB_reverse (le_all _ _)), hbel⟩
end Go.Proofs.YtbkaecjkgjkheaaDoor

/- What aes' stirred answers; four bytes and their number. No claim of its own. -/
namespace Go.Proofs.YtbkaecjkgjkheaaDoor
open Go.RowKit
set_option maxRecDepth 20000

theorem num4 (x : List Int) (h : Wd x) : num (last8 x) = (n4 x : Int) := by
  have h0 := (wd_bd h 0)
  have h1 := (wd_bd h 1)
  have h2 := (wd_bd h 2)
  have h3 := (wd_bd h 3)
  have e : last8 x = x := by unfold last8; rw [h.1]; rfl
  rw [e]
  obtain ⟨a, b, c, d, rfl⟩ : ∃ a b c d, x = [a, b, c, d] := ⟨_, _, _, _, four_gb x h.1⟩
  simp only [gb, List.getD, List.getElem?_cons_zero, List.getElem?_cons_succ, Option.getD_some] at h0 h1 h2 h3
  simp only [num, n4, gb, List.foldl, List.getD, List.getElem?_cons_zero, List.getElem?_cons_succ, Option.getD_some]
  omega
theorem be4n (x : List Int) (h : Wd x) : (le (n4 x : Int) 4).reverse = x := by
  have h0 := (wd_bd h 0)
  have h1 := (wd_bd h 1)
  have h2 := (wd_bd h 2)
  have h3 := (wd_bd h 3)
  have e : (le (n4 x : Int) 4).reverse = [sh (n4 x) 3 % 256, sh (n4 x) 2 % 256, sh (n4 x) 1 % 256, sh (n4 x) 0 % 256] := rfl
  rw [e, four_gb x h.1]
  have e0 : sh (n4 x) 0 = (n4 x : Int) := rfl
  have e1 : sh (n4 x) 1 = (n4 x : Int) / 256 := rfl
  have e2 : sh (n4 x) 2 = (n4 x : Int) / 256 / 256 := rfl
  have e3 : sh (n4 x) 3 = (n4 x : Int) / 256 / 256 / 256 := rfl
  rw [← four_gb x h.1, e3, e2, e1, e0]
  unfold n4
  have f0 : ((((gb x 0).toNat * 16777216 + (gb x 1).toNat * 65536 + (gb x 2).toNat * 256 + (gb x 3).toNat : Nat) : Int) / 256 / 256 / 256) % 256 = gb x 0 := by omega
  have f1 : ((((gb x 0).toNat * 16777216 + (gb x 1).toNat * 65536 + (gb x 2).toNat * 256 + (gb x 3).toNat : Nat) : Int) / 256 / 256) % 256 = gb x 1 := by omega
  have f2 : ((((gb x 0).toNat * 16777216 + (gb x 1).toNat * 65536 + (gb x 2).toNat * 256 + (gb x 3).toNat : Nat) : Int) / 256) % 256 = gb x 2 := by omega
  have f3 : (((gb x 0).toNat * 16777216 + (gb x 1).toNat * 65536 + (gb x 2).toNat * 256 + (gb x 3).toNat : Nat) : Int) % 256 = gb x 3 := by omega
  rw [f0, f1, f2, f3]
  exact (four_gb x h.1).symm
/-- rotated to the left by 8 -/
def rl8 (x : Nat) : Nat := x * 256 % 4294967296 + x / 16777216
theorem rl8_lt (x : Nat) (h : x < 4294967296) : rl8 x < 4294967296 := by unfold rl8; omega
/-- what goes into word i of the word ahead of it -/
def stn (i x : Nat) : Nat := if i % 8 = 0 then wsum (rl8 x) 4 ^^^ pw 2 (i / 8 - 1) * 16777216 else if i % 8 = 4 then wsum x 4 else x

theorem rot8_eq (x : Nat) (h : x < 4294967296) : bits .or .u32 (IntKind.u32.wrap ((x : Int) * 256)) (IntKind.u32.wrap ((x : Int) / 16777216)) = (rl8 x : Int) := by
  have e1 : IntKind.u32.wrap ((x : Int) * 256) = ((2 ^ 8 * (x % 16777216) : Nat) : Int) := by rw [IntKind.wrap_u32]; omega
  have e2 : IntKind.u32.wrap ((x : Int) / 16777216) = ((x / 16777216 : Nat) : Int) := by rw [IntKind.wrap_u32]; omega
  rw [e1, e2, u32_or_nat _ _ (by omega) (by omega), ← Nat.two_pow_add_eq_or_of_lt (by omega) (x % 16777216)]
  unfold rl8
  omega

set_option maxHeartbeats 1000000 in
theorem rotl8_any (x : Nat) (w : World) (hx : x < 4294967296) :
    Calls Tryd.prog 95 #[.int .u32 x, .int .i64 8] w fun e w' => e = .returned (.int .u32 (rl8 x)) ∧ w' = w := by
  have h8 : bits .and .u64 8 31 = 8 := by decide +kernel
  have HX : Hid (x < 4294967296) := hx
  have w1 : IntKind.u32.wrap ((x : Int) / 16777216) = (x : Int) / 16777216 := by rw [IntKind.wrap_u32]; omega
  have HE := rot8_eq x hx
  rw [w1] at HE
  have HE' : Hid (bits .or .u32 (IntKind.u32.wrap ((x : Int) * 256)) ((x : Int) / 16777216) = (rl8 x : Int)) := HE
  clear hx HE
  go_enter Tryd.func95, Tryd.ntmps95
  go_wp2
  go_ret
  exact ⟨ret_int HE'.out, rfl⟩

theorem pw_bd (i : Nat) : pw 2 i < 256 := pw_lt 2 i
set_option maxHeartbeats 2000000 in
theorem stir_any (x i : Nat) (w : World) (hx : x < 4294967296) (hi : 8 ≤ i) (hi' : i < 60) :
    Calls Tryd.prog 76 #[.int .u32 x, .int .i64 i] w fun e w' => e = .returned (.int .u32 (stn i x)) ∧ Below w.heap.size w w' := by
  have q1 : IntKind.i64.wrap (i : Int) = i := by rw [IntKind.wrap_i64]; omega
  by_cases h0 : i % 8 = 0
  · have e0 : ((i : Int)).tmod 8 = 0 := by rw [Int.tmod_eq_emod_of_nonneg (by omega)]; omega
    obtain ⟨d, hd⟩ : ∃ d, d = i / 8 - 1 := ⟨_, rfl⟩
    have e1 : ((i : Int)).tdiv 8 = (d : Int) + 1 := by rw [Int.tdiv_eq_ediv_of_nonneg (by omega)]; omega
    have e2 : IntKind.i64.wrap ((d : Int) + 1) = (d : Int) + 1 := by rw [IntKind.wrap_i64]; omega
    have e3 : IntKind.i64.wrap ((d : Int) + 1 - 1) = (d : Int) := by rw [IntKind.wrap_i64]; omega
    have e6 : IntKind.i64.wrap (d : Int) = (d : Int) := by rw [IntKind.wrap_i64]; omega
    have P1 : Hid (∀ w0, Calls Tryd.prog 93 #[.int .u8 2, .int .i64 d] w0 fun e w' => e = .returned (.int .u8 (pw 2 d)) ∧ w' = w0) := fun w0 => by
      have := pow_any 2 (d : Int) w0 (by omega) (by omega)
      rwa [Int.toNat_natCast] at this
    have R1 : Hid (∀ w0, Calls Tryd.prog 95 #[.int .u32 x, .int .i64 8] w0 fun e w' => e = .returned (.int .u32 (rl8 x)) ∧ w' = w0) := fun w0 => rotl8_any x w0 hx
    have W1 : Hid (∀ w0, Calls Tryd.prog 94 #[.int .u32 (rl8 x)] w0 fun e w' => e = .returned (.int .u32 (wsum (rl8 x) 4)) ∧ Below w0.heap.size w0 w') := fun w0 => word_any (rl8 x) w0
    have HS : Hid ((stn i x : Int) = bits .xor .u32 (wsum (rl8 x) 4 : Int) (IntKind.u32.wrap (((pw 2 d : Nat) : Int) * 16777216))) := by
      show _ = _
      have hp := pw_lt 2 d
      have hw := wsum_lt (rl8 x) 4
      have e4 : IntKind.u32.wrap (((pw 2 d : Nat) : Int) * 16777216) = ((pw 2 d * 16777216 : Nat) : Int) := by rw [IntKind.wrap_u32]; omega
      rw [e4, u32_xor_nat _ _ (by omega) (by omega)]
      unfold stn
      rw [if_pos h0, ← hd]
    have hp8 : pw 2 d < 256 := pw_lt 2 d
    have e5 : IntKind.u32.wrap ((pw 2 d : Nat) : Int) = ((pw 2 d : Nat) : Int) := by rw [IntKind.wrap_u32]; omega
    generalize stn i x = z at *
    generalize wsum (rl8 x) 4 = ws at *
    generalize rl8 x = rx at *
    generalize pw 2 d = p at *
    clear hd hp8
    go_enter Tryd.func76, Tryd.ntmps76
    go_wp2_with (first
      | (go_at_call 94; refine (W1.out _).mono ?_; rintro e w1 ⟨rfl, B1⟩)
      | (go_at_call 95; refine (R1.out _).mono ?_; rintro e w1 ⟨rfl, hw⟩; obtain rfl := hw.symm)
      | (go_at_call 93; refine (P1.out _).mono ?_; rintro e w1 ⟨rfl, hw⟩; obtain rfl := hw.symm))
    go_ret
    exact ⟨ret_int HS.out.symm, B1⟩
  · by_cases h4 : i % 8 = 4
    · have e0 : ((i : Int)).tmod 8 = 4 := by rw [Int.tmod_eq_emod_of_nonneg (by omega)]; omega
      have W1 : Hid (∀ w0, Calls Tryd.prog 94 #[.int .u32 x] w0 fun e w' => e = .returned (.int .u32 (wsum x 4)) ∧ Below w0.heap.size w0 w') := fun w0 => word_any x w0
      have HS : Hid (stn i x = wsum x 4) := by show _ = _; unfold stn; rw [if_neg h0, if_pos h4]
      rw [HS.out]
      generalize wsum x 4 = ws at *
      go_enter Tryd.func76, Tryd.ntmps76
      go_wp2_with (go_at_call 94; refine (W1.out _).mono ?_; rintro e w1 ⟨rfl, B1⟩)
      go_ret
      exact ⟨rfl, B1⟩
    · obtain ⟨r, hr⟩ : ∃ r, r = i % 8 := ⟨_, rfl⟩
      have e0 : ((i : Int)).tmod 8 = (r : Int) := by rw [Int.tmod_eq_emod_of_nonneg (by omega)]; omega
      have r0 : ¬ ((r : Int) = 0) := by omega
      have r4 : ¬ ((r : Int) = 4) := by omega
      have r5 : IntKind.i64.wrap (r : Int) = r := by rw [IntKind.wrap_i64]; omega
      have HS : stn i x = x := by unfold stn; rw [if_neg h0, if_neg h4]
      rw [HS]
      clear hr h0 h4 HS
      go_enter Tryd.func76, Tryd.ntmps76
      go_wp2
      go_ret
      exact ⟨rfl, Below.refl _ _⟩
end Go.Proofs.YtbkaecjkgjkheaaDoor

/- A region that draws its order and only reads and calls, in any class of worlds: one law a kind of operation. No claim of its own. -/
namespace Go.Proofs.YtbkaecjkgjkheaaDoor
open Go.RowKit
set_option maxRecDepth 20000

theorem region_quietC {C : World → Prop} {id : Nat} {Q : Exit → Act → World → Prop} {a : Act} {w : World} {l : List Oper} (hm : Tryd.prog.follows .mixedOrders = true) (hB : Region.lexB .any l.toArray = true) (hC : C { w with drawn := w.drawn + 1 })
    (h : wpQuiet Tryd.prog l.toArray C (fun a' => ∀ w', C w' → Q .normal a' w') l a) : (Code.region id l.toArray true).wp Tryd.prog Q a w :=
  wp_region_quiet hm hB hC (by simpa using h)

theorem run_load1 (w : World) (b p : Nat) (t : TypeId) (k : IntKind) (n : Int) (hu : Tryd.prog.underlying t = some (.int k)) (h : w.cell? ⟨b, p, none⟩ = some (.int k n)) : (loadVar t ⟨b, p, none⟩).run Tryd.prog w = .ok (.int k n) w := by
  simp [loadVar, isAgg, run_underlying hu, h]

section
variable {ops : Array Oper} {C : World → Prop} {K : Act → Prop} {o : Oper} {a : Act}

/-- the address of a slice's element -/
theorem q_idx (hw : Region.wanted o (yielded ops a.tmps) = true) (d : Option Tmp) (hd : o.dst = d) (x y : Operand) (hop : o.op = Op.indexAddr 22 x y) (b off n cap i : Nat) (hx : a.eval x = .slice (some ⟨b, off, none⟩) n cap) (hy : a.eval y = .int .i64 i) (hi : i < n)
    (hK : K (a.put d (.pointer (some ⟨b, off + i, none⟩)))) :
    if Region.wanted o (yielded ops a.tmps) = true then o.quiet Tryd.prog a C K else K (a.put o.dst undef) := by
  refine q_val hw d hd _ (fun w _ => ?_) hK
  have hr : (Instr.indexAt 22 (.slice (some ⟨b, off, none⟩) n cap) (.int .i64 (i : Int))).run Tryd.prog w = .ok (.pointer (some ⟨b, off + i, none⟩)) w := by
    rw [run_indexAt_slice _ _ _ _ _ _ _ und_bytes, if_pos (by omega), elem_bytes, run_size_u8]
    simp [Result.andThen, Addr.add]
  unfold execOp
  simp only [hop, hx, hy, Sem.run_bind, Sem.run_pure, Result.andThen_ok, hr]

/-- a number is read -/
theorem q_get (hw : Region.wanted o (yielded ops a.tmps) = true) (d : Option Tmp) (hd : o.dst = d) (x : Operand) (t : TypeId) (hop : o.op = Op.load t x) (k : IntKind) (n : Int) (b p : Nat) (hx : a.eval x = .pointer (some ⟨b, p, none⟩)) (hu : Tryd.prog.underlying t = some (.int k)) (h : ∀ w, C w → w.cell? ⟨b, p, none⟩ = some (.int k n))
    (hK : K (a.put d (.int k n))) :
    if Region.wanted o (yielded ops a.tmps) = true then o.quiet Tryd.prog a C K else K (a.put o.dst undef) := by
  refine q_val hw d hd _ (fun w hC => ?_) hK
  unfold execOp
  simp only [hop, hx, Instr.loadAt, Instr.sureAddr, Sem.run_bind, Sem.run_pure, Result.andThen_ok, run_load1 w b p t k n hu (h w hC)]
/-- two numbers that are the same are not unlike -/
theorem q_neq (hw : Region.wanted o (yielded ops a.tmps) = true) (d : Option Tmp) (hd : o.dst = d) (x y : Operand) (t t' : TypeId) (hop : o.op = Op.binOp .neq t x y t') (k : IntKind) (n : Int) (hx : a.eval x = .int k n) (hy : a.eval y = .int k n)
    (hK : K (a.put d (.bool false))) :
    if Region.wanted o (yielded ops a.tmps) = true then o.quiet Tryd.prog a C K else K (a.put o.dst undef) := by
  refine q_val hw d hd _ (fun w _ => ?_) hK
  unfold execOp
  simp only [hop, hx, hy]
  go_simp
end
end Go.Proofs.YtbkaecjkgjkheaaDoor

/- A region that draws its order, whose first operations only read and whose last ones write: one walk of the first, in the order of the text, then the last. No claim of its own. -/
namespace Go.Proofs.YtbkaecjkgjkheaaDoor
open Go.RowKit
set_option maxRecDepth 20000

/-- does operation k wait for operation j -/
def waits (md : Region.Mode) (ops : Array Oper) (k j : Nat) : Bool := match ops[k]? with
  | some o => o.after.any fun e => Region.binds md e && e.on == j
  | none => false
/-- the operations from k to m only wait for earlier ones, have no guard, and operation m waits for them all; those behind m wait for m -/
def thenB (md : Region.Mode) (ops : Array Oper) (k m n : Nat) : Bool :=
  (ops.size == m + n) && Region.noSelect (ops.extract 0 m) && Region.lexFrom md (ops.extract 0 m) (m - k) k (Array.replicate k true ++ Array.replicate (m - k) false)
  && (List.range m).all (fun i => match ops[i]? with | some o => o.guard.isNone && o.after.all (fun e => !Region.binds md e || decide (e.on < i)) | none => false)
  && (List.range m).all (fun j => decide (j < k) || (List.range (m + 1)).any (fun i => decide (j < i) && waits md ops i j))
  && (List.range (m + n)).all (fun i => decide (i ≤ m) || waits md ops i m) && decide (k ≤ m)

theorem waits_spec {md : Region.Mode} {ops : Array Oper} {k j : Nat} (h : waits md ops k j = true) : ∃ o, ops[k]? = some o ∧ ∃ e ∈ o.after, Region.binds md e = true ∧ e.on = j := by
  unfold waits at h
  cases ho : ops[k]? with
  | none => simp [ho] at h
  | some o =>
    simp only [ho] at h
    obtain ⟨e, he, h2⟩ := Array.any_eq_true'.1 h
    simp only [Bool.and_eq_true, beq_iff_eq] at h2
    exact ⟨o, rfl, e, he, h2.1, h2.2⟩

section
variable {P : Program} {ops : Array Oper} {md : Region.Mode} {C : World → Prop} {Q : Exit → Act → World → Prop}

theorem getD_lo {L : Array Bool} {n j : Nat} (b : Bool) (hj : j < L.size) : (L ++ Array.replicate n false).getD j b = L.getD j b := by
  simp [Array.getElem?_append, hj]
theorem getD_hi {L : Array Bool} {n j : Nat} (b : Bool) (hj : L.size ≤ j) (hn : j < L.size + n) : (L ++ Array.replicate n false).getD j b = false := by
  simp [Array.getElem?_append, Nat.not_lt.2 hj, show j - L.size < n by omega]
theorem getD_any {L : Array Bool} {j : Nat} (b c : Bool) (hj : j < L.size) : L.getD j b = L.getD j c := by simp [hj]
theorem all_true {L : Array Bool} {m : Nat} (hs : L.size = m) (h : ∀ j, j < m → L.getD j true = true) : L = Array.replicate m true := by
  apply Array.ext
  · simp [hs]
  · intro i h1 h2
    have := h i (by omega)
    simpa [h1] using this
theorem set_lo {L : Array Bool} {n i : Nat} (hi : i < L.size) : (L ++ Array.replicate n false).setIfInBounds i true = L.setIfInBounds i true ++ Array.replicate n false := by
  apply Array.ext_getElem?
  intro j
  rw [Array.getElem?_setIfInBounds, Array.getElem?_append, Array.getElem?_append, Array.getElem?_setIfInBounds, Array.size_setIfInBounds, Array.size_append]
  by_cases e : i = j
  · subst e; simp [hi]
    omega
  · simp [e]

theorem wpAny_pre {m n k : Nat} (hsz : ops.size = m + n)
    (hpre : ∀ i, i < m → ∃ o, ops[i]? = some o ∧ o.guard = none ∧ ∀ e ∈ o.after, Region.binds md e = true → e.on < i)
    (hall : ∀ j, k ≤ j → j < m → ∃ i, j < i ∧ i ≤ m ∧ waits md ops i j = true)
    (hbeh : ∀ i, m < i → i < m + n → waits md ops i m = true) (Q' : Act → Prop)
    (hQ : ∀ a, Q' a → ∀ f w, C w → wpAny P md ops Q (f + n) (Array.replicate m true ++ Array.replicate n false) a w) :
    ∀ (fuel : Nat) (L : Array Bool) (a : Act) (w : World), L.size = m → (∀ j, j < k → j < m → L.getD j true = true) →
      (∀ i o, i < m → ops[i]? = some o → L.getD i true = true → ∀ e ∈ o.after, Region.binds md e = true → L.getD e.on false = true) →
      C w → wpAnyQ P md (ops.extract 0 m) C Q' fuel L a → wpAny P md ops Q (fuel + n) (L ++ Array.replicate n false) a w := by
  have hex : ∀ i, i < m → (ops.extract 0 m)[i]? = ops[i]? := fun i hi => by
    rw [Array.getElem?_extract]; simp
    intro h; omega
  have hpr : ∀ (L : Array Bool) (i : Nat), L.size = m → i < m → (i ∈ Region.ready md (ops.extract 0 m) L ↔ i ∈ Region.ready md ops (L ++ Array.replicate n false)) := by
    intro L i hs hi
    obtain ⟨o, ho, hg, hd⟩ := hpre i hi
    rw [mem_ready, mem_ready, hex i hi, ho, getD_lo _ (by omega)]
    constructor
    · rintro ⟨h1, o', e', h2⟩
      cases e'
      exact ⟨h1, o, rfl, fun e he hb => by rw [getD_lo _ (by have := hd e he hb; omega)]; exact h2 e he hb⟩
    · rintro ⟨h1, o', e', h2⟩
      cases e'
      refine ⟨h1, o, rfl, fun e he hb => ?_⟩
      have := h2 e he hb
      rwa [getD_lo _ (by have := hd e he hb; omega)] at this
  -- an operation that may come up while one of the first has not yet come up is one of the first
  have hlow : ∀ (L : Array Bool) (i : Nat), L.size = m → (∀ j, j < k → j < m → L.getD j true = true) → (∀ i o, i < m → ops[i]? = some o → L.getD i true = true → ∀ e ∈ o.after, Region.binds md e = true → L.getD e.on false = true) →
      (∃ j, j < m ∧ L.getD j true = false) → i ∈ Region.ready md ops (L ++ Array.replicate n false) → i < m := by
    intro L i hs hk hcl ⟨j, hj, hjf⟩ hi
    rcases Nat.lt_or_ge i m with h | h
    · exact h
    exfalso
    obtain ⟨hun, o, ho, hd⟩ := mem_ready.1 hi
    have hio : i < m + n := by rw [← hsz]; exact (Array.getElem?_eq_some_iff.1 ho).1
    have him : i = m := by
      rcases Nat.lt_or_ge m i with h' | h'
      · obtain ⟨o', ho', e, he, hb, hon⟩ := waits_spec (hbeh i h' hio)
        rw [ho] at ho'; cases ho'
        have := hd e he hb
        rw [hon, getD_hi _ (by omega) (by omega)] at this
        cases this
      · omega
    subst him
    have hdown : ∀ d j, i - 1 - d = j → j < i → L.getD j true = true := by
      intro d
      induction d using Nat.strongRecOn with
      | ind d ih =>
        intro j hdj hji
        rcases Nat.lt_or_ge j k with hjk | hjk
        · exact hk j hjk hji
        obtain ⟨c, hc1, hc2, hw⟩ := hall j hjk hji
        obtain ⟨o', ho', e, he, hb, hon⟩ := waits_spec hw
        rcases Nat.lt_or_ge c i with hci | hci
        · have h1 := ih (i - 1 - c) (by omega) c (by omega) hci
          have h2 := hcl c o' hci ho' h1 e he hb
          rw [hon] at h2
          rw [getD_any true false (by omega)]; exact h2
        · have : c = i := by omega
          subst this
          rw [ho] at ho'; cases ho'
          have h2 := hd e he hb
          rw [hon, getD_lo _ (by omega)] at h2
          rw [getD_any true false (by omega)]; exact h2
    have := hdown (i - 1 - j) j (by omega) hj
    rw [this] at hjf; cases hjf
  -- one of the first that has not come up yet: one of them may come up
  have hsome : ∀ (L : Array Bool), L.size = m → (∃ j, j < m ∧ L.getD j true = false) → ∃ i, i < m ∧ i ∈ Region.ready md (ops.extract 0 m) L := by
    intro L hs ⟨j, hj, hjf⟩
    induction j using Nat.strongRecOn with
    | ind j ih =>
      obtain ⟨o, ho, hg, hd⟩ := hpre j hj
      by_cases hq : ∀ e ∈ o.after, Region.binds md e = true → L.getD e.on false = true
      · exact ⟨j, hj, mem_ready.2 ⟨hjf, o, by rw [hex j hj]; exact ho, hq⟩⟩
      · simp only [Classical.not_forall] at hq
        obtain ⟨e, he, hb, hn⟩ := hq
        have hlt := hd e he hb
        refine ih e.on hlt (by omega) ?_
        rw [getD_any true false (by omega)]
        simpa using hn
  intro fuel
  induction fuel with
  | zero =>
    intro L a w hs hk hcl hC h
    have hal : ∀ j, j < m → L.getD j true = true := by
      intro j hj
      cases hv : L.getD j true with
      | true => rfl
      | false =>
        obtain ⟨i, _, hi⟩ := hsome L hs ⟨j, hj, hv⟩
        rw [h.1] at hi; cases hi
    rw [all_true hs hal]
    exact hQ a h.2 0 w hC
  | succ fuel ih =>
    intro L a w hs hk hcl hC h
    by_cases hal : ∀ j, j < m → L.getD j true = true
    · rw [all_true hs hal]
      refine hQ a (h.1 ?_) (fuel + 1) w hC
      apply List.eq_nil_iff_forall_not_mem.2
      intro i hi
      obtain ⟨hun, o, ho, _⟩ := mem_ready.1 hi
      have him : i < m := by
        have := (Array.getElem?_eq_some_iff.1 ho).1
        simp at this; omega
      rw [hal i him] at hun; cases hun
    · have hex2 : ∃ j, j < m ∧ L.getD j true = false := by
        simp only [Classical.not_forall] at hal
        obtain ⟨j, hj, hn⟩ := hal
        exact ⟨j, hj, by simpa using hn⟩
      rw [Nat.add_right_comm]
      refine ⟨fun h0 => ?_, fun i hi => ?_⟩
      · obtain ⟨i, him, hi⟩ := hsome L hs hex2
        rw [hpr L i hs him, h0] at hi; cases hi
      · have him := hlow L i hs hk hcl hex2 hi
        have hip := (hpr L i hs him).2 hi
        have hq := h.2 i hip
        obtain ⟨o, ho, hg, hd⟩ := hpre i him
        obtain ⟨hun, o', ho', hdd⟩ := mem_ready.1 hi
        rw [ho] at ho'; cases ho'
        unfold qOp at hq
        unfold wpOp
        rw [hex i him, ho] at hq
        rw [ho]
        have hw1 : ∀ y, Region.wanted o y = true := fun y => by simp [Region.wanted, hg]
        simp only [hw1, if_true] at hq ⊢
        refine .inl (Oper.wp_of_quiet hC (fun a' w' hw' hK => ?_) hq)
        rw [set_lo (by omega)]
        refine ih _ a' w' (by simpa using hs) (fun j hj hjm => ?_) (fun c oc hc hoc hct e he hb => ?_) hw' hK
        · by_cases hij : i = j
          · subst hij; simp [hs, him]
          · rw [getD_set_ne true hij]; exact hk j hj hjm
        · by_cases hie : i = e.on
          · rw [← hie]; simp [hs, him]
          · rw [getD_set_ne false hie]
            by_cases hic : i = c
            · subst hic
              rw [ho] at hoc; cases hoc
              have := hdd e he hb
              rwa [getD_lo _ (by have := hd e he hb; omega)] at this
            · rw [getD_set_ne true hic] at hct
              exact hcl c oc hc hoc hct e he hb

/-- **the first m operations (the first k of them have come up) by one walk in the order of the text, then the others** -/
theorem wpAny_quiet_then (k m n : Nat) {fuel : Nat} {listed : Array Bool} {a : Act} {w : World} (l : List Oper) (hB : thenB md ops k m n = true) (hl : l = (ops.toList.take m).drop k) (hf : fuel = (m - k) + n)
    (hL : listed = (Array.replicate k true ++ Array.replicate (m - k) false) ++ Array.replicate n false) (hC : C w)
    (h : wpQuiet P (ops.extract 0 m) C (fun a' => ∀ f w', C w' → wpAny P md ops Q (f + n) (Array.replicate m true ++ Array.replicate n false) a' w') l a) : wpAny P md ops Q fuel listed a w := by
  simp only [thenB, Bool.and_eq_true, beq_iff_eq, decide_eq_true_eq] at hB
  obtain ⟨⟨⟨⟨⟨⟨hsz, hns⟩, hlex⟩, hpre⟩, hall⟩, hbeh⟩, hkm⟩ := hB
  subst hf hL
  have hll : l.length = m - k := by rw [hl]; simp; omega
  refine wpAny_pre (k := k) hsz (fun i hi => ?_) (fun j hj hjm => ?_) (fun i hi hin => ?_) _ (fun a h => h) (m - k) _ a w (by simp; omega) (fun j hj hjm => ?_) (fun i o hi ho ht e he hb => ?_) hC ?_
  · have := List.all_eq_true.1 hpre i (List.mem_range.2 hi)
    cases ho : ops[i]? with
    | none => simp [ho] at this
    | some o =>
      simp only [ho, Bool.and_eq_true] at this
      refine ⟨o, rfl, by simpa using this.1, fun e he hb => ?_⟩
      have h2 := Array.all_eq_true_iff_forall_mem.1 this.2 e he
      simpa [hb] using h2
  · have := List.all_eq_true.1 hall j (List.mem_range.2 hjm)
    simp only [Bool.or_eq_true, decide_eq_true_eq] at this
    rcases this with h | h
    · omega
    obtain ⟨i, hi, h2⟩ := List.any_eq_true.1 h
    simp only [Bool.and_eq_true, decide_eq_true_eq] at h2
    exact ⟨i, h2.1, by have := List.mem_range.1 hi; omega, h2.2⟩
  · have := List.all_eq_true.1 hbeh i (List.mem_range.2 hin)
    simp only [Bool.or_eq_true, decide_eq_true_eq] at this
    rcases this with h | h
    · omega
    · exact h
  · simp [Array.getElem?_append, hj]
  · have hik : i < k := by
      rcases Nat.lt_or_ge i k with h | h
      · exact h
      · simp [Array.getElem?_append, Nat.not_lt.2 h, show i - k < m - k by omega] at ht
    have := List.all_eq_true.1 hpre i (List.mem_range.2 hi)
    simp only [ho, Bool.and_eq_true] at this
    have h2 := Array.all_eq_true_iff_forall_mem.1 this.2 e he
    have h3 : e.on < i := by simpa [hb] using h2
    simp [Array.getElem?_append, show e.on < k by omega]
  · have := wpAnyQ_lex (P := P) (C := C) (md := md) hns l k (Array.replicate k true ++ Array.replicate (m - k) false) a (fun j => ?_) (by rw [hll]; exact hlex) h
    · rwa [hll] at this
    · rw [hl, List.getElem?_drop, Array.getElem?_extract]
      by_cases hj : k + j < m
      · rw [List.getElem?_take_of_lt hj]; simp
        intro h; omega
      · rw [List.getElem?_take_eq_none (by omega)]; simp; omega
end
end Go.Proofs.YtbkaecjkgjkheaaDoor

