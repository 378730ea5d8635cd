/- What twice's polynomials answer: of a list, as a list, doubled, added. No claim of its own. -/
import Derived.Test.YtjojimffolagmaaTProd
import Derived.Test.YtjojimffolagmaaStepG
namespace Go.Proofs.Ytjojimffolagmaa
open Go.RowKit

def z16 : List Int := List.replicate 16 0
theorem z16_len : z16.length = 16 := List.length_replicate
theorem z_poly : (Try.prog.info? 40).map (fun i => (i.zero, i.size)) = some (some (.agg (ints .u8 z16)), z16.length) := by kernel_rfl
theorem i_poly : (Try.prog.info? 40).map (·.size) = some 16 := by kernel_rfl
theorem laid_all (xs ys : List Int) (h : xs.length = ys.length) : laid xs 0 ys = ys := by
  unfold laid
  rw [List.take_zero, List.nil_append, List.drop_eq_nil_of_le (by omega), List.append_nil]
theorem gb_setT (xs : List Int) (i t : Nat) (x : Int) (h : t < xs.length) : gb (xs.set i x) t = if i = t then x else gb xs t := set_gb xs i t x h
theorem range_gbT (n : Nat) (f : Nat → Int) (t : Nat) (h : t < n) : gb ((List.range n).map f) t = f t := by simp [gb, List.getD, h]

section
variable {ops : Array Oper} {rest : List Oper} {o : Oper} {a : Act} {Q : Exit → Act → World → Prop}
/-- 'copy(d, s)' of as many bytes as d has room for -/
theorem copy_lawG (w : World) (hg : o.guard = none) (x y : Operand) (hop : o.op = .call { callee := .builtin .copy, args := #[x, y], argTypes := #[22, 22] })
    (b p n dc : Nat) (v : Value) (xs ys : List Int) (hx : a.eval x = .slice (some ⟨b, p, none⟩) n dc) (hy : a.eval y = v) (hb : Byt w v ys) (hA : Ar w b 0 .u8 xs) (hn : ys.length = n) (hl : p + n ≤ xs.length)
    (hK : ∀ w', Ar w' b 0 .u8 (laid xs p ys) → Below b w w' → wpList Try.prog ops Q rest (a.put o.dst (.int .i64 (n : Int))) w') :
    wpList Try.prog ops Q (o :: rest) a w := by
  refine wpList_plain hg fun K hK' => ?_
  obtain ⟨ao, cap, rfl, h1, h2, h3, h4, h5⟩ := hb
  have e : min ys.length n = n := by omega
  have hrun := run_copyG w b p n dc ao ys cap o.type h5 (by rw [e]; exact thereG hA p n hl)
  rw [e, List.take_of_length_le (by omega)] at hrun
  unfold Oper.wp execOp
  simp only [hop, resolve, invoke, builtin, Sem.run_bind, Sem.run_pure, Result.andThen_ok, List.map_toArray, List.map_cons, List.map_nil, hx, hy, hrun]
  exact hK' _ _ (hK _ (hA.layG p ys (by omega)) (below_cells _ (Nat.le_refl _) _ _ (Below.refl _ _)))
/-- an element of a polynomial -/
theorem idx16 (w : World) (hg : o.guard = none) (x y : Operand) (hop : o.op = Op.index 40 x y) (xs : List Int) (I : Int) (i : Nat) (hx : a.eval x = .agg (ints .u8 xs)) (hy : a.eval y = .int .i64 I) (hI : I = (i : Int)) (hl : xs.length = 16) (hi : i < 16)
    (q : Int) (hq : q = gb xs i) (hK : wpList Try.prog ops Q rest (a.put o.dst (.int .u8 q)) w) : wpList Try.prog ops Q (o :: rest) a w := by
  subst hq
  subst hI
  refine wpList_plain hg fun K hK' => ?_
  have e : (ints .u8 xs)[i]? = some (.int .u8 (gb xs i)) := by simp [ints, gb, List.getD, show i < xs.length by omega]
  have hu := Try.underlying40
  have hu2 := Try.underlying5
  have hsz : (ints .u8 xs).size = 16 := by simp [ints, hl]
  have hr : (Instr.index 40 (.agg (ints .u8 xs)) (.int .i64 i)).run Try.prog w = .ok (.int .u8 (gb xs i)) w := by
    simp [Instr.index, asIntOf, run_underlying hu, run_underlying hu2, Go.part, isAgg, e]
    intro h; omega
  unfold Oper.wp execOp
  simp only [hop, hx, hy, Sem.run_bind, Sem.run_pure, Result.andThen_ok, hr]
  exact hK' _ _ hK
end

set_option linter.unusedSimpArgs false in
set_option maxRecDepth 20000 in
set_option maxHeartbeats 2000000 in
theorem tof_any (v : Value) (xs : List Int) (w : World) (hv : Byt w v xs) (hl : xs.length = 16) :
    Calls Try.prog 19 #[v] w fun e w' => e = .returned (.agg (ints .u8 xs)) ∧ Below w.heap.size w w' := by
  have HV : Hid (Byt w v xs) := hv
  have HL : Hid (xs.length = 16) := hl
  have HZ : Hid (laid z16 0 xs = xs) := laid_all z16 xs (by rw [z16_len, hl])
  clear hv hl
  go_enter Try.func19, Try.ntmps19
  go_wp2_with (first
    | (have q2 := s2; refine copy_lawG _ rfl (.tmp 4) (.tmp 5) rfl w1.heap.size 0 16 16 v z16 xs rfl rfl (HV.out.below (B1.trans (B2.mono (by omega)))) HA2.out HL.out (by rw [z16_len]; omega) ?_; intro w3 A3 B3; rw [HZ.out] at A3; have HA3 : Hid (Ar w3 w1.heap.size 0 .u8 xs) := A3; clear A3)
    | (have q1 := s1; refine new_lawF _ rfl 40 rfl .u8 z16 z_poly ?_; intro w2 A2 B2 s2; have HA2 : Hid (Ar w2 w1.heap.size 0 .u8 z16) := A2; clear A2)
    | (refine new_lawF _ rfl 40 rfl .u8 z16 z_poly ?_; intro w1 A1 B1 s1; have HA1 : Hid (Ar w1 w.heap.size 0 .u8 z16) := A1; clear A1)
    | (refine load_law _ rfl (.tmp 3) 40 rfl .u8 xs w1.heap.size 0 rfl HA3.out 16 5 Try.underlying40 i_poly HL.out ?_)
    | (refine store_lawF _ rfl (.tmp 2) (.tmp 7) 40 rfl .u8 z16 xs w.heap.size rfl rfl (((HA1.out.below B2 s1)).below B3 s1) 16 i_poly z16_len HL.out ?_; intro w7 A7 B7))
  refine bodyPost_ret (v := .agg (ints .u8 xs)) (results_ar rfl _ _ w.heap.size 0 .u8 xs rfl A7 16 5 Try.underlying40 i_poly HL.out) rfl ⟨rfl, ?_⟩
  exact ((B1.trans (B2.mono (by omega))).trans (B3.mono (by omega))).trans B7

set_option linter.unusedSimpArgs false in
set_option maxRecDepth 20000 in
set_option maxHeartbeats 2000000 in
theorem tlst_any (xs : List Int) (w : World) (hl : xs.length = 16) (hx : AllB xs) :
    Calls Try.prog 21 #[.agg (ints .u8 xs)] w fun e w' => ∃ g, e = .returned (.slice (some ⟨g, 0, none⟩) 16 16) ∧ Ar w' g 0 .u8 xs ∧ w.heap.size ≤ g ∧ Below w.heap.size w w' := by
  have HX : Hid (AllB xs) := hx
  have HL : Hid (xs.length = 16) := hl
  have HZ : Hid (laid z16 0 xs = xs) := laid_all z16 xs (by rw [z16_len, hl])
  clear hl hx
  go_enter Try.func21, Try.ntmps21
  go_wp2_with (first
    | (have q2 := s2; refine copy_lawG _ rfl (.tmp 5) (.tmp 6) rfl w1.heap.size 0 16 16 _ z16 xs rfl rfl ((HA1.out.below B2 s1).bytG HX.out 16 16 HL.out (by omega) (by omega)) HO2.out HL.out (by rw [z16_len]; omega) ?_; intro w3 A3 B3; rw [HZ.out] at A3; have HA3 : Hid (Ar w3 w1.heap.size 0 .u8 xs) := A3; clear A3)
    | (refine box_lawF _ rfl (.tmp 0) 40 rfl .u8 xs rfl ?_; intro w1 A1 B1 s1; have HA1 : Hid (Ar w1 w.heap.size 0 .u8 xs) := A1; clear A1)
    | (at_make; refine make_law _ rfl _ _ rfl w1.heap.size (Nat.le_refl _) 16 16 rfl rfl rfl (by omega) ?_; intro w2 hown B2 s2; have HO2 : Hid (Ar w2 w1.heap.size 0 .u8 z16) := hown.arG; clear hown))
  go_ret
  exact ⟨w1.heap.size, rfl, HA3.out, by omega, B1.trans ((B2.trans B3).mono (by omega))⟩
end Go.Proofs.Ytjojimffolagmaa
