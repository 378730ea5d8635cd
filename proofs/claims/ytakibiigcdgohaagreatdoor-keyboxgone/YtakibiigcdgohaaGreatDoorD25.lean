/- Parts of the proof: what KeyboxGone reaches. No claim of its own. -/
import Derived.WalkKit
import Derived.Deep.QuietTactic
import Derived.Deep.RegionHeld3
import Derived.Deep.WholeRow
import Derived.Deep.MidRow
import Derived.Laws.StructEq
import Derived.Lib.AppendZeros
import Derived.Lib.SliceRun
import Derived.Lib.MakeNoZero
import Derived.Deep.DeepCutAuto
import Derived.Deep.Slices
import Derived.ArgAppend
import Derived.WalkSmall
import Derived.ProofKit
import Derived.OpenShut
import Derived.BigQuiet
import Derived.Laws.AppendOwnNone
import Derived.Laws.Tables
import Derived.Deep.LoopGhost
import Derived.Deep.DeepHandedRow
import Derived.Lib.LaidTab
import Derived.Deep.Matrix
import Derived.Test.YtakibiigcdgohaaGreatDoorD00
import Derived.Test.YtakibiigcdgohaaGreatDoorD01
import Derived.Test.YtakibiigcdgohaaGreatDoorD02
import Derived.Test.YtakibiigcdgohaaGreatDoorD03
import Derived.Test.YtakibiigcdgohaaGreatDoorD04
import Derived.Test.YtakibiigcdgohaaGreatDoorD05
import Derived.Test.YtakibiigcdgohaaGreatDoorD06
import Derived.Test.YtakibiigcdgohaaGreatDoorD07
import Derived.Test.YtakibiigcdgohaaGreatDoorD08
import Derived.Test.YtakibiigcdgohaaGreatDoorD09
import Derived.Test.YtakibiigcdgohaaGreatDoorD10
import Derived.Test.YtakibiigcdgohaaGreatDoorD11
import Derived.Test.YtakibiigcdgohaaGreatDoorD12
import Derived.Test.YtakibiigcdgohaaGreatDoorD13
import Derived.Test.YtakibiigcdgohaaGreatDoorD14
import Derived.Test.YtakibiigcdgohaaGreatDoorD15
import Derived.Test.YtakibiigcdgohaaGreatDoorD16
import Derived.Test.YtakibiigcdgohaaGreatDoorD17
import Derived.Test.YtakibiigcdgohaaGreatDoorD18
import Derived.Test.YtakibiigcdgohaaGreatDoorD19
import Derived.Test.YtakibiigcdgohaaGreatDoorD20
import Derived.Test.YtakibiigcdgohaaGreatDoorD21
import Derived.Test.YtakibiigcdgohaaGreatDoorD22
import Derived.Test.YtakibiigcdgohaaGreatDoorD23
import Derived.Test.YtakibiigcdgohaaGreatDoorD24
set_option maxHeartbeats 8000000
namespace Go.Proofs.YtakibiigcdgohaaGreatDoor.vb
open Go.RowKit Go.Proofs.YtakibiigcdgohaaGreatDoor.fa Go.Proofs.YtakibiigcdgohaaGreatDoor.he Go.Proofs.YtakibiigcdgohaaGreatDoor.pa Go.Proofs.YtakibiigcdgohaaGreatDoor.ck
set_option maxRecDepth 20000
theorem neq_marks (a b c d : Bool) (w : World) : (binOp .neq 92 (.agg #[.bool a, .bool b, .bool c, .bool d]) (.agg #[.bool false, .bool false, .bool false, .bool false])).run Tryz.prog w = .ok (.bool (a || b || c || d)) w := by
  cases a <;> cases b <;> cases c <;> cases d <;> kernel_rfl
theorem leaks_bs {H : Ch} {b : Bx} {w : World} {B : Nat} (h : Vr w B (bxc H.c b)) : Calls Tryz.prog 25 #[.pointer (some ⟨B, 0, none⟩)] w fun e w' => e = .returned (.bool (b.lk 0 || b.lk 1 || b.lk 2 || b.lk 3)) ∧ w' = w := by
  have c11 := h.cell 11 _ rfl
  have c12 := h.cell 12 _ rfl
  have c13 := h.cell 13 _ rfl
  have c14 := h.cell 14 _ rfl
  have qn := neq_marks (b.lk 0) (b.lk 1) (b.lk 2) (b.lk 3)
  clear h
  generalize b.lk 0 = x0 at c11 qn ⊢
  generalize b.lk 1 = x1 at c12 qn ⊢
  generalize b.lk 2 = x2 at c13 qn ⊢
  generalize b.lk 3 = x3 at c14 qn ⊢
  go_enter Tryz.func25, Tryz.ntmps25
  go_wp2
  go_ret
  exact ⟨rfl, rfl⟩
theorem image_cs {H : Ch} {M : Nat → Bool} {w : World} {l : List na.Opn} {s : na.St} (h : Cs H M w s l) : Calls Tryz.prog 19 #[.pointer (some ⟨H.c, 0, none⟩)] w fun e w' => ∃ ao cap, e = .returned (.slice ao (H.N * (H.P * H.T)) cap) ∧ Byt w' (.slice ao (H.N * (H.P * H.T)) cap) (na.img H.N H.P s) ∧ Below w.heap.size w w' := by
  obtain ⟨⟨tv, z1⟩, -, z3, -⟩ := h
  refine (na.image_any z1).mono ?_
  rintro e w' ⟨v, h1, h2, h3⟩
  rw [na.raw_i] at h2
  obtain ⟨ao, cap, e2⟩ := he.byt_form h2.1 (na.img_len z3)
  subst e2
  exact ⟨ao, cap, h1, h2.1, h3⟩
def Allx (xs : List Int) (x : Int) : Prop := ∀ k, k < xs.length → gb xs k = x
theorem gone_yes (rb n cap : Nat) (ao : Option Addr) (xs : List Int) (w : World) (hr : w.cell? ⟨rb, 0, none⟩ = some (.slice ao n cap)) (hy : Byt w (.slice ao n cap) xs) (hl : xs.length = n) (hn : n ≤ 1000000000) (x : Int) (hx : x = 255 ∨ x = 0) (ha : Allx xs x) :
    Calls Tryz.prog 27 #[.agg #[.slice (some ⟨rb, 0, none⟩) 1 1, .slice none 0 0, .int .i64 0, .bool false, .int .i64 0]] w fun e w' => e = .returned (.bool true) ∧ Below w.heap.size w w' := by
  have HR : Hid (w.cell? ⟨rb, 0, none⟩ = some (.slice ao n cap)) := hr
  have HY : Hid (Byt w (.slice ao n cap) xs) := hy
  have HA : Hid (Allx xs x ∧ xs.length = n) := ⟨ha, hl⟩
  have HX : Hid (x = 255 ∨ x = 0) := hx
  have LR : Hid (rb < w.heap.size) := World.block_lt_of_cell? w _ hr
  clear hr hy ha hl hx
  have t0 := tR
  go_enter Tryz.func27, Tryz.ntmps27
  go_wp2_with (first
    | (have q0 := t0; refine box_lawC _ [.slice (some ⟨rb, 0, none⟩) 1 1, .slice none 0 0, .int .i64 0, .bool false, .int .i64 0] rfl ?_; intro w1 X9 B9 l9; have x0 := X9.cell 0 _ rfl; have r0 : w1.cell? ⟨rb, 0, none⟩ = some (.slice ao n cap) := (by rw [B9.cell (p := ⟨rb, 0, none⟩) LR.out]; exact HR.out); have HY : Hid (Byt w1 (.slice ao n cap) xs) := HY.out.below B9; have BB : Hid (Below w.heap.size w w1) := B9; clear X9 B9 l9 t0; have t1 := tR))
  go_loop [3, 4, 5] (fun a b i => ∃ (k : Nat) (p q : Bool), k ≤ 1 ∧ i = .int .i64 (k : Int) ∧ a = .bool p ∧ b = .bool q ∧ Hid ((x = 255 → p = true) ∧ (x = 0 → q = true))) (fun _ _ i => 1 - (intOf i).toNat)
  case atStart => exact ⟨0, true, true, by omega, rfl, rfl, rfl, fun _ => rfl, fun _ => rfl⟩
  case round =>
    obtain ⟨k, p, q, hk, rfl, rfl, rfl, HP⟩ := hrel
    by_cases hlt : k < 1
    · obtain rfl : k = 0 := by omega
      go_wp2
      go_loop [3, 4, 6] (fun a b i => ∃ (j : Nat) (p q : Bool), j ≤ n ∧ i = .int .i64 (j : Int) ∧ a = .bool p ∧ b = .bool q ∧ Hid ((x = 255 → p = true) ∧ (x = 0 → q = true))) (fun _ _ i => n - (intOf i).toNat)
      case atStart => exact ⟨0, p, q, Nat.zero_le _, rfl, rfl, rfl, HP⟩
      case round =>
        obtain ⟨j, p2, q2, hj, rfl, rfl, rfl, HP2⟩ := hrel
        by_cases hjn : j < n
        · have lj1 : (j : Int) < (n : Int) := by omega
          have lj0 : (0 : Int) ≤ (j : Int) := by omega
          have lj2 : IntKind.i64.wrap ((j : Int) + 1) = (j : Int) + 1 := by rw [IntKind.wrap_i64]; omega
          obtain ⟨ao', cap', e1, -, -, -, -, h5⟩ := HY.out
          obtain ⟨b, off, e2, hc⟩ := h5 (by rw [HA.out.2]; omega)
          injection e1 with e1 e3 e4
          rw [e2] at e1
          subst e1
          have c0 := hc j (by rw [HA.out.2]; exact hjn)
          rw [HA.out.1 j (by rw [HA.out.2]; exact hjn)] at c0
          clear hc e3 e4 h5
          rcases HX.out with hx | hx
          · subst hx
            obtain rfl : p2 = true := HP2.out.1 rfl
            cases q2 with
            | true =>
              go_wp2
              go_round
              case rel => exact ⟨j + 1, true, false, by omega, by go_num, rfl, rfl, fun _ => rfl, fun z => absurd z (by decide)⟩
              case measure => simp [intOf]; omega
            | false =>
              go_wp2
              go_round
              case rel => exact ⟨j + 1, true, false, by omega, by go_num, rfl, rfl, fun _ => rfl, fun z => absurd z (by decide)⟩
              case measure => simp [intOf]; omega
          · subst hx
            obtain rfl : q2 = true := HP2.out.2 rfl
            cases p2 with
            | true =>
              go_wp2
              go_round
              case rel => exact ⟨j + 1, false, true, by omega, by go_num, rfl, rfl, fun z => absurd z (by decide), fun _ => rfl⟩
              case measure => simp [intOf]; omega
            | false =>
              go_wp2
              go_round
              case rel => exact ⟨j + 1, false, true, by omega, by go_num, rfl, rfl, fun z => absurd z (by decide), fun _ => rfl⟩
              case measure => simp [intOf]; omega
        · have ej : j = n := by omega
          subst ej
          go_wp2
          go_round
          case rel => exact ⟨1, p2, q2, by omega, by go_num, rfl, rfl, HP2⟩
          case measure => simp [intOf]
    · obtain rfl : k = 1 := by omega
      rcases HX.out with hx | hx
      · obtain rfl : p = true := HP.out.1 hx
        go_wp2
        go_ret
        exact ⟨rfl, BB.out⟩
      · obtain rfl : q = true := HP.out.2 hx
        cases p with
        | true =>
          go_wp2
          go_ret
          exact ⟨rfl, BB.out⟩
        | false =>
          go_wp2
          go_ret
          exact ⟨rfl, BB.out⟩
theorem gone_blk {P T : Nat} {s : na.St} {k : Nat} (h : Fsh P T s k ∨ Nul P T s k) : (∃ x, (x = 255 ∨ x = 0) ∧ Allx (na.jnd P (na.pgs s k)) x) ∧ (na.jnd P (na.pgs s k)).length = P * T := by
  have key : ∀ x : Int, (∀ p, p < P → na.pgs s k p = List.replicate T x) → Allx (na.jnd P (na.pgs s k)) x ∧ (na.jnd P (na.pgs s k)).length = P * T := fun x hx => by
    have hl := na.jnd_len P T (na.pgs s k) fun p hp => by rw [hx p hp]; simp
    refine ⟨fun i hi => ?_, hl⟩
    rw [hl] at hi
    rcases Nat.eq_zero_or_pos T with h0 | h0
    · subst h0; omega
    have e : i = i / T * T + i % T := by rw [Nat.mul_comm]; exact (Nat.div_add_mod i T).symm
    have hp : i / T < P := (Nat.div_lt_iff_lt_mul h0).2 hi
    have hm : i % T < T := Nat.mod_lt _ h0
    have z := na.jnd_gb P T (na.pgs s k) (fun p hp => by rw [hx p hp]; simp) (i / T) (i % T) hp hm
    rw [← e] at z
    rw [z, hx _ hp]
    simp [gb, List.getD, hm]
  rcases h with h | h
  · have z := key 255 fun p hp => (h.1 p hp).1
    exact ⟨⟨255, .inl rfl, z.1⟩, z.2⟩
  · have z := key 0 h
    exact ⟨⟨0, .inr rfl, z.1⟩, z.2⟩
end Go.Proofs.YtakibiigcdgohaaGreatDoor.vb
namespace Go.Proofs.YtakibiigcdgohaaGreatDoor
open Go.RowKit
set_option maxRecDepth 20000
section
variable {ops : Array Oper} {rest : List Oper} {o : Oper} {a : Act} {Q : Exit → Act → World → Prop}
theorem wpList_want {w : World} (hw : Region.wanted o (yielded ops a.tmps) = true) (h : ∀ K : Act → World → Prop, (∀ a w, wpList Tryz.prog ops Q rest a w → K a w) → o.wp Tryz.prog a w K Q) : wpList Tryz.prog ops Q (o :: rest) a w :=
  wpList_step fun K hK => by rw [if_pos hw]; exact h K hK
theorem cut_partG (w : World) (hw : Region.wanted o (yielded ops a.tmps) = true) (s x y : Operand) (hop : o.op = Op.slice 35 s (some x) (some y) none) (v : Value) (xs : List Int) (L H : Int) (l h : Nat)
    (hs : a.eval s = v) (hx : a.eval x = .int .i64 L) (hy : a.eval y = .int .i64 H) (hL : L = (l : Int)) (hH : H = (h : Int)) (hl : l ≤ h) (hh : h ≤ xs.length) (hb : Byt w v xs)
    (hK : ∀ v', Byt w v' ((xs.take h).drop l) → wpList Tryz.prog ops Q rest (a.put o.dst v') w) :
    wpList Tryz.prog ops Q (o :: rest) a w := by
  refine wpList_want hw fun K hK' => ?_
  obtain ⟨ao, cap, rfl, hc, hb'⟩ := byt_cut hb l h hl hh
  have hrun := run_slice_lh (P := Tryz.prog) w 35 ao xs.length cap und_bytes .i64 .i64 L H (by omega) (by omega) (by omega)
  rw [elem_bytes, run_size_u8] at hrun
  subst hL
  subst hH
  unfold Oper.wp
  simp [execOp, hop, hs, hx, hy, run_sliceAt_slice w 35 _ _ _ _ und_bytes, hrun, Result.andThen]
  exact hK' _ _ (hK _ hb')
end
end Go.Proofs.YtakibiigcdgohaaGreatDoor
namespace Go.Proofs.YtakibiigcdgohaaGreatDoor.vb
open Go.RowKit Go.Proofs.YtakibiigcdgohaaGreatDoor.fa Go.Proofs.YtakibiigcdgohaaGreatDoor.he Go.Proofs.YtakibiigcdgohaaGreatDoor.pa Go.Proofs.YtakibiigcdgohaaGreatDoor.ck
set_option maxRecDepth 20000
theorem one_ksteps : One 25 := ⟨⟨_, Tryz.underlying25, rfl⟩, by kernel_rfl⟩
theorem one_u8v : One 5 := ⟨⟨_, Tryz.underlying5, rfl⟩, by kernel_rfl⟩
theorem one_u64v : One 41 := ⟨⟨_, Tryz.underlying41, rfl⟩, by kernel_rfl⟩
theorem exec_gtrN {ev : Operand → Value} {o : Oper} {w : World} (x y : Operand) (hop : o.op = Op.binOp .gtr 3 x y 3) (A B : Int) (hx : ev x = .int .i64 A) (hy : ev y = .int .i64 B) (h : decide (B < A) = false) : (execOp ev o).run Tryz.prog w = .ok (.value (.bool false)) w := by
  rw [← h]
  unfold execOp
  simp only [hop, hx, hy]
  rfl
theorem run_size_kstep (w : World) : (sizeOf 50).run Tryz.prog w = .ok 3 w := by kernel_rfl
theorem exec_idxK {ev : Operand → Value} {o : Oper} (x y : Operand) (hop : o.op = Op.indexAddr 25 x y) (b off n cap i : Nat) (hx : ev x = .slice (some ⟨b, off, none⟩) n cap) (hy : ev y = .int .i64 (i : Int)) (hi : i < n) (w : World) : (execOp ev o).run Tryz.prog w = .ok (.value (.pointer (some ⟨b, off + i * 3, none⟩))) w := by
  have hr : (Instr.indexAt 25 (.slice (some ⟨b, off, none⟩) n cap) (.int .i64 (i : Int))).run Tryz.prog w = .ok (.pointer (some ⟨b, off + i * 3, none⟩)) w := by
    rw [run_indexAt_slice _ _ _ _ _ _ _ Tryz.underlying25, if_pos (by omega), show Tryz.prog.elem 25 = 50 by kernel_rfl, run_size_kstep]
    simp [Result.andThen, Addr.add]
  unfold execOp
  simp only [hop, hx, hy, Sem.run_bind, Result.andThen_ok, hr]
  rfl
def wrapsN (n : Nat) : Prop := IntKind.i64.wrap ((n : Int) + 6) = (n : Int) + 6 ∧ IntKind.i64.wrap (8 * ((n : Int) + 6)) = 8 * ((n : Int) + 6)
theorem wrapsn (n : Nat) (h : n ≤ 20) : wrapsN n := ⟨by rw [IntKind.wrap_i64]; omega, by rw [IntKind.wrap_i64]; omega⟩
theorem lk_all {b : Bx} (h : (b.lk 0 || b.lk 1 || b.lk 2 || b.lk 3) = false) : ∀ j, j < 4 → b.lk j = false := fun j hj => by
  simp only [Bool.or_eq_false_iff] at h
  have : j = 0 ∨ j = 1 ∨ j = 2 ∨ j = 3 := by omega
  rcases this with rfl | rfl | rfl | rfl
  · exact h.1.1.1
  · exact h.1.1.2
  · exact h.1.2
  · exact h.2
theorem range6v {w : World} {c : Nat} {a0 a1 a2 a3 a4 a5 a6 a7 : Value} (h : w.rangeAt c 0 [a0, a1, a2, a3, a4, a5, a6, a7]) : w.rangeAt c 0 [a0, a1, a2, a3, a4, a5] := fun j v hv => by
  match j, hv with
  | 0, hv => exact h 0 v hv
  | 1, hv => exact h 1 v hv
  | 2, hv => exact h 2 v hv
  | 3, hv => exact h 3 v hv
  | 4, hv => exact h 4 v hv
  | 5, hv => exact h 5 v hv
theorem one_lawR2 {ops : Array Oper} {rest : List Oper} {o : Oper} {a : Act} {Q : Exit → Act → World → Prop} (w : World) (hw : Region.wanted o (yielded ops a.tmps) = true) (x : Operand) (hop : o.op = Op.buildSlice 68 1 #[(0, x)]) (v : Value) (hv : ck.Sle v) (hx : a.eval x = v)
    (hK : ∀ w', w'.cell? ⟨w.heap.size, 0, none⟩ = some v → Below w.heap.size w w' → wpList Tryz.prog ops Q rest (a.put o.dst (.slice (some ⟨w.heap.size, 0, none⟩) 1 1)) w') : wpList Tryz.prog ops Q (o :: rest) a w := by
  refine wpList_want hw fun K hK' => ?_
  have z := step_oneR (Q := Q) (K := K) (E := True) w hw o.dst rfl x hop v hv hx fun w' h1 h2 => hK' _ _ (hK w' (by
    obtain ⟨ao, cap, e, -, -, -, h5⟩ := h1.vals
    obtain ⟨b, off, e2, hc⟩ := h5 (by simp)
    injection e with e _ _
    rw [e2] at e
    injection e with e
    injection e with e3 e4 _
    subst e3 e4
    exact hc 0 (by simp)) h2)
  rw [if_pos hw] at z
  exact z
theorem oj_bx0 {P T : Nat} (s : na.St) (a g : Int) (h : Bool) : J P T (bx0 s a g h) := fun _ _ => ⟨fun z => absurd z Bool.false_ne_true, fun z => absurd z Bool.false_ne_true⟩
theorem gn_A (g0 g1 g2 g3 g4 g5 : Int) (po so : Option Addr) (pc nf nt sc : Nat) (fs : List (Int × Bool × Value)) (ms : Nat → List Int) (w : World) (enf : fs.length = nf) (hf : Fls w (.slice po fs.length pc) fs) (hm : Mks w fs ms) (hT : Tab w) (hn : ¬ (ge.Rt [g0, g1, g2, g3, g4, g5] ∧ (fs.length ≤ 64 ∧ Okp fs ms fs.length) ∧ g0 ≤ 12 ∧ g1 ≤ 20 ∧ g2 ≤ 128 ∧ (nt : Int) ≤ 8)) :
    Calls Tryz.prog 5 #[.agg ([.int .i64 g0, .int .i64 g1, .int .i64 g2, .int .i64 g3, .int .i64 g4, .int .i64 g5, .slice po nf pc, .slice so nt sc] : List Value).toArray] w fun x w' => x = .returned (.bool true) ∧ Below w.heap.size w w' := by
  have SL : Hid (∀ w0, Below w.heap.size w w0 → Calls Tryz.prog 7 #[.agg ([.int .i64 g0, .int .i64 g1, .int .i64 g2, .int .i64 g3, .int .i64 g4, .int .i64 g5, .slice po nf pc, .slice so nt sc] : List Value).toArray] w0 fun x w' => x = .returned (.bool false) ∧ Below w0.heap.size w0 w') := fun w0 b0 => by subst enf; exact light_any g0 g1 g2 g3 g4 g5 po so pc nt sc fs ms w0 (hf.below b0) (hm.below b0) false ⟨fun z => absurd z Bool.false_ne_true, fun z => absurd z hn⟩
  have HT : Hid (Tab w) := hT
  clear hn hf hm hT enf
  have t0 := tR
  go_enter Tryz.func5, Tryz.ntmps5
  go_wp2_with (first
    | (have q2 := t2; go_at_call 8; refine (awake_any _ (tab_up HT.out BW.out.1 (Nat.le_refl _))).mono ?_; rintro e9 w9 ⟨rfl, B9⟩; have BZ : Hid (Below w.heap.size w w9) := BW.out.1.trans (B9.mono BW.out.1.size); clear B9 t2; have t3 := tR)
    | (have q1 := t1; go_at_call 7; refine (SL.out w1 BW.out.1).mono ?_; rintro e9 w2 ⟨rfl, B9⟩; have HX : Hid (Vr w2 w.heap.size [.int .i64 g0, .int .i64 g1, .int .i64 g2, .int .i64 g3, .int .i64 g4, .int .i64 g5, .slice po nf pc, .slice so nt sc]) := HX.out.below B9 BW.out.2; have BW : Hid (Below w.heap.size w w2 ∧ w.heap.size < w2.heap.size) := ⟨BW.out.1.trans (B9.mono BW.out.1.size), Nat.lt_of_lt_of_le BW.out.2 B9.size⟩; clear B9 t1 x_0 x_1 x_2 x_3 x_4 x_5 x_6 x_7; have x_0 := HX.out.cell 0 _ rfl; have x_1 := HX.out.cell 1 _ rfl; have x_2 := HX.out.cell 2 _ rfl; have x_3 := HX.out.cell 3 _ rfl; have x_4 := HX.out.cell 4 _ rfl; have x_5 := HX.out.cell 5 _ rfl; have x_6 := HX.out.cell 6 _ rfl; have x_7 := HX.out.cell 7 _ rfl; have t2 := tR)
    | (have q0 := t0; refine box_lawC _ [.int .i64 g0, .int .i64 g1, .int .i64 g2, .int .i64 g3, .int .i64 g4, .int .i64 g5, .slice po nf pc, .slice so nt sc] rfl ?_; intro w1 X9 B9 l9; have HX : Hid (Vr w1 w.heap.size [.int .i64 g0, .int .i64 g1, .int .i64 g2, .int .i64 g3, .int .i64 g4, .int .i64 g5, .slice po nf pc, .slice so nt sc]) := X9; have x_0 := X9.cell 0 _ rfl; have x_1 := X9.cell 1 _ rfl; have x_2 := X9.cell 2 _ rfl; have x_3 := X9.cell 3 _ rfl; have x_4 := X9.cell 4 _ rfl; have x_5 := X9.cell 5 _ rfl; have x_6 := X9.cell 6 _ rfl; have x_7 := X9.cell 7 _ rfl; have BW : Hid (Below w.heap.size w w1 ∧ w.heap.size < w1.heap.size) := ⟨B9, l9⟩; clear X9 B9 l9 t0; have t1 := tR))
  go_ret
  exact ⟨rfl, BZ.out⟩
theorem gn_D (N P S : Nat) (g3 g4 g5 : Int) (po so : Option Addr) (pc nf nt sc : Nat) (fs : List (Int × Bool × Value)) (ms : Nat → List Int) (ts : List Kst) (w : World) (enf : fs.length = nf) (ent : ts.length = nt) (hf : Fls w (.slice po fs.length pc) fs) (hm : Mks w fs ms) (hst : Ksts w (.slice so ts.length sc) ts) (hT : Tab w)
    (hl : ge.Rt [(N : Int), (P : Int), (S : Int), g3, g4, g5] ∧ (fs.length ≤ 64 ∧ Okp fs ms fs.length) ∧ (N : Int) ≤ 12 ∧ (P : Int) ≤ 20 ∧ (S : Int) ≤ 128 ∧ (nt : Int) ≤ 8) :
    Calls Tryz.prog 5 #[.agg ([.int .i64 (N : Int), .int .i64 (P : Int), .int .i64 (S : Int), .int .i64 g3, .int .i64 g4, .int .i64 g5, .slice po nf pc, .slice so nt sc] : List Value).toArray] w fun x w' => x = .returned (.bool true) ∧ Below w.heap.size w w' := by
  have SL : Hid (∀ w0, Below w.heap.size w w0 → Calls Tryz.prog 7 #[.agg ([.int .i64 (N : Int), .int .i64 (P : Int), .int .i64 (S : Int), .int .i64 g3, .int .i64 g4, .int .i64 g5, .slice po nf pc, .slice so nt sc] : List Value).toArray] w0 fun x w' => x = .returned (.bool true) ∧ Below w0.heap.size w0 w') := fun w0 b0 => by subst enf; exact light_any (N : Int) (P : Int) (S : Int) g3 g4 g5 po so pc nt sc fs ms w0 (hf.below b0) (hm.below b0) true ⟨fun _ => hl, fun _ => rfl⟩
  have HT : Hid (Tab w) := hT
  have hr := hl.1
  have HRT : Hid (ge.Rt [(N : Int), (P : Int), (S : Int), g3, g4, g5]) := hr
  have s12 := rt_sec hr
  have nl := nc_le s12.1 s12.2
  obtain ⟨pl, epl⟩ : ∃ pl, na.plnOf fs ms = pl := ⟨_, rfl⟩
  have SN : Hid (∀ w0, Below w.heap.size w w0 → Calls Tryz.prog 9 #[.agg (ints .i64 [(N : Int), (P : Int), (S : Int), g3, g4, g5]), .slice po nf pc] w0 fun e w' => ∃ H M, e = .returned (.tuple #[.pointer (some ⟨H.c, 0, none⟩), .int .i64 0]) ∧ Cs H M w' (na.new (S + 88)) [] ∧ (∀ k, M k = true → w0.heap.size ≤ k) ∧ Below w0.heap.size w0 w' ∧ HIs H N P S g3 g4 g5 pl) := fun w0 b0 => by
    subst enf
    refine (new_cs N P S g3 g4 g5 ⟨rfl, hr, rfl, rfl, by show (S : Int) + 88 = ((S + 88 : Nat) : Int); omega⟩ _ fs ms w0 (hf.below b0) (hm.below b0) hl.2.1.1 hl.2.1.2).mono ?_
    rintro e w' ⟨H, M, h1, h2, h3, h4, n1, n2, n3, n4, n5, n6, n7⟩
    exact ⟨H, M, h1, h2, h3, h4, n1, n2, n3, n4, n5, n6, n7.trans epl⟩
  obtain ⟨n, en⟩ : ∃ n, nc S = n := ⟨_, rfl⟩
  have SCH : Hid (∀ w0, Calls Tryz.prog 22 #[.agg (ints .i64 [(N : Int), (P : Int), (S : Int), g3, g4, g5])] w0 fun x w' => x = .returned (.int .i64 (n : Int)) ∧ Below w0.heap.size w0 w') := fun w0 => by rw [← en]; exact rchunks_nc hr w0
  have HNC : Hid (nc S = n ∧ 1 ≤ n ∧ n ≤ 20) := ⟨en, by omega, by omega⟩
  have HST : Hid (∀ k, k < nt → ∃ tb tf sd gen, so = some ⟨tb, tf, none⟩ ∧ w.cell? ⟨tb, tf + k * 3, none⟩ = some (.int .u8 sd) ∧ w.cell? ⟨tb, tf + k * 3 + 1, none⟩ = some (.int .u64 gen) ∧ (0 ≤ sd ∧ sd ≤ 255) ∧ 0 ≤ gen ∧ gen ≤ 18446744073709551615) := fun k hk => by
    subst ent
    obtain ⟨⟨ao, cap, e1, -, -, -, -, h5⟩, h6⟩ := hst
    rw [List.length_map] at e1 h5
    obtain ⟨tb, tf, e2, hc⟩ := h5 (by omega)
    injection e1 with e1 _ _
    have z := hc k hk
    have e3 : na.el (ts.map tc3) k = tc3 ts[k] := by simp [na.el, List.getD, hk]
    rw [e3] at z
    have h7 := h6 ts[k] (List.getElem_mem hk)
    exact ⟨tb, tf, ts[k].1, ts[k].2.1, e1.trans e2, z 0 _ rfl, z 1 _ rfl, h7.1, h7.2⟩
  have hnt : nt ≤ 8 := by have := hl.2.2.2.2.2; omega
  obtain ⟨nb, enb⟩ : ∃ nb, (S + 88) * P = nb := ⟨_, rfl⟩
  have hb1 : nb ≤ 216 * 20 := by rw [← enb]; exact Nat.mul_le_mul (by omega) (by omega)
  have ws : IntKind.i64.wrap ((S : Int) + 88) = (S : Int) + 88 := by rw [IntKind.wrap_i64]; omega
  have cnb : ((S : Int) + 88) * (P : Int) = (nb : Int) := by rw [← enb]; push_cast; rfl
  have wm : IntKind.i64.wrap (((S : Int) + 88) * (P : Int)) = (nb : Int) := by rw [cnb, IntKind.wrap_i64]; omega
  obtain ⟨LL, ell⟩ : ∃ LL, nb * N = LL := ⟨_, rfl⟩
  have hLL : LL ≤ 216 * 20 * 12 := by rw [← ell]; exact Nat.mul_le_mul hb1 (by omega)
  have wL : IntKind.i64.wrap ((nb : Int) * (N : Int)) = (LL : Int) := by rw [show (nb : Int) * (N : Int) = (LL : Int) by rw [← ell]; push_cast; rfl, IntKind.wrap_i64]; omega
  have HLL : Hid (N * (P * (S + 88)) = LL ∧ nb = P * (S + 88) ∧ nb ≤ 4320) := ⟨by rw [← ell, ← enb, Nat.mul_comm N, Nat.mul_comm P], by rw [← enb, Nat.mul_comm], hb1⟩
  have HN4 : Hid (4 ≤ N) := by have z := hr.1.1.1; have e : gb [(N : Int), (P : Int), (S : Int), g3, g4, g5] 0 = (N : Int) := rfl; rw [e] at z; show 4 ≤ N; omega
  have WN : Hid (wrapsN n) := wrapsn n (by omega)
  clear hf hm hst hT hl hr s12 nl epl en enf ent enb ell cnb hLL hb1
  have t0 := tR
  go_enter Tryz.func5, Tryz.ntmps5
  go_wp2_with (first
    | (have q3 := t3; go_at_call 10; refine (open_new_at HH.out HC.out (HT2.out.below BB.out)).mono ?_; rintro e9 w4 ⟨B0, zo, zc, rfl, b9, lb9, B9⟩; have HB0 : Hid (Bs H M w4 B0 (b0 (S + 88)) []) := b9; have HLB : Hid (w2.heap.size ≤ B0) := Nat.le_trans BB.out.size lb9; have BB : Hid (Below w2.heap.size w2 w4) := BB.out.trans (B9.mono BB.out.size); have HV4 := HX2.out.below BB.out BW.out.2; have x_0 := HV4.cell 0 _ rfl; have x_1 := HV4.cell 1 _ rfl; have x_2 := HV4.cell 2 _ rfl; have x_3 := HV4.cell 3 _ rfl; have x_4 := HV4.cell 4 _ rfl; have x_5 := HV4.cell 5 _ rfl; have x_6 := HV4.cell 6 _ rfl; have x_7 := HV4.cell 7 _ rfl; clear b9 lb9 B9 t3 HV4; have t4 := tR)
    | (have q2 := t2; go_at_call 9; refine (SN.out w2 BW.out.1).mono ?_; rintro e9 w3 ⟨H, M, rfl, c9, m9, B9, h9⟩; have HC : Hid (Cs H M w3 (na.new (S + 88)) []) := c9; have HM : Hid (∀ k, M k = true → w2.heap.size ≤ k) := m9; have HH : Hid (HIs H N P S g3 g4 g5 pl) := h9; have BB : Hid (Below w2.heap.size w2 w3) := B9; have HX2 : Hid (Vr w2 w.heap.size [.int .i64 (N : Int), .int .i64 (P : Int), .int .i64 (S : Int), .int .i64 g3, .int .i64 g4, .int .i64 g5, .slice po nf pc, .slice so nt sc]) := HX.out; clear c9 m9 h9 B9 t2 x_0 x_1 x_2 x_3 x_4 x_5 x_6 x_7; have t3 := tR)
    | (have q1 := t1; go_at_call 7; refine (SL.out w1 BW.out.1).mono ?_; rintro e9 w2 ⟨rfl, B9⟩; have HX : Hid (Vr w2 w.heap.size [.int .i64 (N : Int), .int .i64 (P : Int), .int .i64 (S : Int), .int .i64 g3, .int .i64 g4, .int .i64 g5, .slice po nf pc, .slice so nt sc]) := HX.out.below B9 BW.out.2; have BW : Hid (Below w.heap.size w w2 ∧ w.heap.size < w2.heap.size) := ⟨BW.out.1.trans (B9.mono BW.out.1.size), Nat.lt_of_lt_of_le BW.out.2 B9.size⟩; clear B9 t1 x_0 x_1 x_2 x_3 x_4 x_5 x_6 x_7; have x_0 := HX.out.cell 0 _ rfl; have x_1 := HX.out.cell 1 _ rfl; have x_2 := HX.out.cell 2 _ rfl; have x_3 := HX.out.cell 3 _ rfl; have x_4 := HX.out.cell 4 _ rfl; have x_5 := HX.out.cell 5 _ rfl; have x_6 := HX.out.cell 6 _ rfl; have x_7 := HX.out.cell 7 _ rfl; have HT2 : Hid (Tab w2) := tab_up HT.out BW.out.1 (Nat.le_refl _); have t2 := tR)
    | (have q0 := t0; refine box_lawC _ [.int .i64 (N : Int), .int .i64 (P : Int), .int .i64 (S : Int), .int .i64 g3, .int .i64 g4, .int .i64 g5, .slice po nf pc, .slice so nt sc] rfl ?_; intro w1 X9 B9 l9; have HX : Hid (Vr w1 w.heap.size [.int .i64 (N : Int), .int .i64 (P : Int), .int .i64 (S : Int), .int .i64 g3, .int .i64 g4, .int .i64 g5, .slice po nf pc, .slice so nt sc]) := X9; have x_0 := X9.cell 0 _ rfl; have x_1 := X9.cell 1 _ rfl; have x_2 := X9.cell 2 _ rfl; have x_3 := X9.cell 3 _ rfl; have x_4 := X9.cell 4 _ rfl; have x_5 := X9.cell 5 _ rfl; have x_6 := X9.cell 6 _ rfl; have x_7 := X9.cell 7 _ rfl; have BW : Hid (Below w.heap.size w w1 ∧ w.heap.size < w1.heap.size) := ⟨B9, l9⟩; clear X9 B9 l9 t0; have t1 := tR))
  go_loopw [5, 9] (fun p i wr => ∃ (k B : Nat) (b : Bx) (M' : Nat → Bool) (l' : List na.Opn), k ≤ nt ∧ i = .int .i64 (k : Int) ∧ p = .pointer (some ⟨B, 0, none⟩) ∧ Hid (Bs H M' wr B b l') ∧ Hid (Below w2.heap.size w2 wr) ∧ Hid ((∀ k, M' k = true → w2.heap.size ≤ k) ∧ w2.heap.size ≤ B) ∧ Hid (J P (S + 88) b ∧ Plc b.cur ∧ na.ops b.s ≤ 208 * k)) (fun _ i _ => nt - (intOf i).toNat)
  case atStart => exact ⟨0, B0, b0 (S + 88), M, [], Nat.zero_le _, rfl, rfl, HB0, BB, ⟨HM.out, HLB.out⟩, oj_bx0 _ _ _ _, ⟨0, by omega, rfl⟩, Nat.zero_le _⟩
  case round =>
    obtain ⟨k, B, b, M', l', hk, rfl, rfl, HB, BB, HM, HJ⟩ := hrel
    have HV := HX2.out.below BB.out BW.out.2
    have x_7 := HV.cell 7 _ rfl
    by_cases hlt : k < nt
    · have lk1 : (k : Int) < (nt : Int) := by omega
      have lk0 : (0 : Int) ≤ (k : Int) := by omega
      have lk2 : IntKind.i64.wrap ((k : Int) + 1) = (k : Int) + 1 := by rw [IntKind.wrap_i64]; omega
      have HK : Hid (k < nt ∧ nt ≤ 8) := ⟨hlt, hnt⟩
      obtain ⟨tb, tf, sd, gen, rfl, hc0, hc1, hsd, hgen⟩ := HST.out k hlt
      have LX : Hid (w.heap.size < w2.heap.size ∧ tb < w2.heap.size) := ⟨BW.out.2, Nat.lt_of_lt_of_le (World.block_lt_of_cell? _ _ hc0) BW.out.1.size⟩
      have BT : Below w.heap.size w wr := BW.out.1.trans (BB.out.mono BW.out.1.size)
      have s_0 : wr.cell? ⟨tb, tf + k * 3, none⟩ = some (.int .u8 sd) := by rw [BT.cell (World.block_lt_of_cell? _ _ hc0)]; exact hc0
      have s_1 : wr.cell? ⟨tb, tf + k * 3 + 1, none⟩ = some (.int .u64 gen) := by rw [BT.cell (World.block_lt_of_cell? _ _ hc1)]; exact hc1
      have HS10 : Hid (wr.drew.cell? ⟨w.heap.size, 7, none⟩ = some (.slice (some ⟨tb, tf, none⟩) nt sc) ∧ wr.drew.cell? ⟨tb, tf + k * 3, none⟩ = some (.int .u8 sd) ∧ wr.drew.cell? ⟨tb, tf + k * 3 + 1, none⟩ = some (.int .u64 gen)) := ⟨x_7, s_0, s_1⟩
      have SRC : Hid (∀ w0, Calls Tryz.prog 17 #[.int .u8 sd] w0 fun e w' => ∃ v, e = .returned v ∧ ∃ ro rc, v = .slice ro 624 rc ∧ Byt w' (.slice ro 624 rc) (rcd sd 624) ∧ Below w0.heap.size w0 w') := fun w0 => (record_any sd hsd w0).mono (by
        rintro e w' ⟨v, h1, h2, h3⟩
        obtain ⟨ro, rc, rfl⟩ := he.byt_form h2 (rcd_len _ _)
        exact ⟨_, h1, ro, rc, rfl, h2, h3⟩)
      have cj := cmt_j (N := N) (pl := pl) (l := lps S (rcd sd 624) gen) (gen := gen) HJ.out.1
      have co := cmt_ops (N := N) (P := P) (T := S + 88) (pl := pl) (b := b) (l := lps S (rcd sd 624) gen) (gen := gen)
      have cp := cmt_plc (N := N) (P := P) (T := S + 88) (pl := pl) (l := lps S (rcd sd 624) gen) (gen := gen) HJ.out.2.1
      rw [lps_len, HNC.out.1] at co
      have sc : ∀ w0 l0 v, Bs H M' w0 B b l0 → Byt w0 v (rcd sd 624) → Tab w0 → Calls Tryz.prog 18 #[.pointer (some ⟨B, 0, none⟩), v, .int .u64 gen] w0 (Opd H M' w0 B (cmt N P (S + 88) pl b (lps S (rcd sd 624) gen) gen).2 (cmt N P (S + 88) pl b (lps S (rcd sd 624) gen) gen).1) := fun w0 l0 v hb hy ht => commit_at HH.out hb HJ.out.2.1 v _ hy (rcd_len _ _) gen hgen ht (by have := HJ.out.2.2; omega)
      generalize cmt N P (S + 88) pl b (lps S (rcd sd 624) gen) gen = r at cj co cp sc
      obtain ⟨b1, e1⟩ := r
      have SC : Hid (∀ w0 l0 v, Bs H M' w0 B b l0 → Byt w0 v (rcd sd 624) → Tab w0 → Calls Tryz.prog 18 #[.pointer (some ⟨B, 0, none⟩), v, .int .u64 gen] w0 (Opd H M' w0 B e1 b1)) := sc
      have HJ1 : Hid (e1 ≠ 4 → J P (S + 88) b1 ∧ (e1 = 0 ∨ e1 = 15) ∧ (e1 = 0 → (∀ j, j < 4 → b1.lk j = false) → ∀ j : Nat, j < 4 → (j : Int) ≠ b1.cur → Fsh P (S + 88) b1.s j ∨ Nul P (S + 88) b1.s j)) := cj
      have HP1 : Hid (Plc b1.cur) := cp
      have co : na.ops b1.s ≤ na.ops b.s + 8 * (n + 6) := co
      have HO8 : Hid (na.ops b1.s ≤ 208 * (k + 1)) := by have z1 := HJ.out.2.2; have z2 := HNC.out; show _ ≤ _; omega
      obtain ⟨O1, eo1⟩ : ∃ O1 : Int, (na.ops b.s : Int) = O1 := ⟨_, rfl⟩
      obtain ⟨O2, eo2⟩ : ∃ O2 : Int, (na.ops b1.s : Int) = O2 := ⟨_, rfl⟩
      obtain ⟨DL, edl⟩ : ∃ DL : Int, O2 - O1 = DL := ⟨_, rfl⟩
      have EO1 : Hid ((na.ops b.s : Int) = O1) := eo1
      have EO2 : Hid ((na.ops b1.s : Int) = O2) := eo2
      have WD : Hid (IntKind.i64.wrap (O2 - O1) = DL ∧ decide (8 * ((n : Int) + 6) < DL) = false) := ⟨by have := HJ.out.2.2; have := HO8.out; have := HK.out; rw [edl, IntKind.wrap_i64]; omega, decide_eq_false (by omega)⟩
      clear sc cj cp co eo1 eo2 edl hc0 hc1 hsd hgen s_0 s_1 HV BT HJ
      have t4 := tR
      go_wp2_with (first
        | (have q4 := t4; go_at_call 23; refine (ops_cs HB.out.1).mono ?_; rintro e9 v9 ⟨rfl, hw⟩; obtain rfl := hw.symm; rw [EO1.out]; clear t4 x_7; have t5 := tR))
      have HB : Hid (Bs H M' wr.drew B b l') := HB.out.below (fa.below_drawn (Below.refl _ _) 1)
      have BB : Hid (Below w2.heap.size w2 wr.drew) := fa.below_drawn BB.out 1
      refine wp_region_held_drew (S := fun w' => w'.cell? ⟨w.heap.size, 7, none⟩ = some (.slice (some ⟨tb, tf, none⟩) nt sc) ∧ w'.cell? ⟨tb, tf + k * 3, none⟩ = some (.int .u8 sd) ∧ w'.cell? ⟨tb, tf + k * 3 + 1, none⟩ = some (.int .u64 gen)) (by kernel_rfl) HS10.out (fun hS => ?_)
      obtain ⟨y1, hx0⟩ : ∃ x, x = wr.drew := ⟨_, rfl⟩
      rw [← hx0] at hS HB BB ⊢
      clear hx0
      refine tkH 0 (some 49) (.pointer (some ⟨B, 0, none⟩)) rfl rfl (Or.inl ⟨by rfl, fun w' hw' => by rfl⟩) hS ?_
      simp only [Act.put, zE1, zE2, zE3]
      refine tkH 1 (some 50) (.pointer (some ⟨w.heap.size, 7, none⟩)) rfl rfl (Or.inl ⟨by rfl, fun w' hw' => by go_simp⟩) hS ?_
      simp only [Act.put, zE1, zE2, zE3]
      refine tkH 2 (some 51) (.slice (some ⟨tb, tf, none⟩) nt sc) rfl rfl (Or.inl ⟨by rfl, fun w' hw' => by exact exec_loadN 25 (.tmp 50) rfl _ rfl _ _ (load_one one_ksteps hw'.1)⟩) hS ?_
      simp only [Act.put, zE1, zE2, zE3]
      refine tkH 3 (some 52) (.int .i64 (k : Int)) rfl rfl (Or.inl ⟨by rfl, fun w' hw' => by rfl⟩) hS ?_
      simp only [Act.put, zE1, zE2, zE3]
      refine tkH 4 (some 53) (.pointer (some ⟨tb, tf + k * 3, none⟩)) rfl rfl (Or.inl ⟨by rfl, fun w' hw' => by exact exec_idxK (.tmp 51) (.tmp 52) rfl tb tf nt sc k rfl rfl HK.out.1 _⟩) hS ?_
      simp only [Act.put, zE1, zE2, zE3]
      refine tkH 5 (some 54) (.pointer (some ⟨tb, tf + k * 3, none⟩)) rfl rfl (Or.inl ⟨by rfl, fun w' hw' => by go_simp⟩) hS ?_
      simp only [Act.put, zE1, zE2, zE3]
      refine tkH 6 (some 55) (.int .u8 sd) rfl rfl (Or.inl ⟨by rfl, fun w' hw' => by exact exec_loadN 5 (.tmp 54) rfl _ rfl _ _ (load_one one_u8v hw'.2.1)⟩) hS ?_
      simp only [Act.put, zE1, zE2, zE3]
      refine tkH 8 (some 57) (.pointer (some ⟨w.heap.size, 7, none⟩)) rfl rfl (Or.inl ⟨by rfl, fun w' hw' => by go_simp⟩) hS ?_
      simp only [Act.put, zE1, zE2, zE3]
      refine tkH 9 (some 58) (.slice (some ⟨tb, tf, none⟩) nt sc) rfl rfl (Or.inl ⟨by rfl, fun w' hw' => by exact exec_loadN 25 (.tmp 57) rfl _ rfl _ _ (load_one one_ksteps hw'.1)⟩) hS ?_
      simp only [Act.put, zE1, zE2, zE3]
      refine tkH 10 (some 59) (.int .i64 (k : Int)) rfl rfl (Or.inl ⟨by rfl, fun w' hw' => by rfl⟩) hS ?_
      simp only [Act.put, zE1, zE2, zE3]
      refine tkH 11 (some 60) (.pointer (some ⟨tb, tf + k * 3, none⟩)) rfl rfl (Or.inl ⟨by rfl, fun w' hw' => by exact exec_idxK (.tmp 58) (.tmp 59) rfl tb tf nt sc k rfl rfl HK.out.1 _⟩) hS ?_
      simp only [Act.put, zE1, zE2, zE3]
      refine tkH 12 (some 61) (.pointer (some ⟨tb, tf + k * 3 + 1, none⟩)) rfl rfl (Or.inl ⟨by rfl, fun w' hw' => by go_simp⟩) hS ?_
      simp only [Act.put, zE1, zE2, zE3]
      refine tkH 13 (some 62) (.int .u64 gen) rfl rfl (Or.inl ⟨by rfl, fun w' hw' => by exact exec_loadN 41 (.tmp 61) rfl _ rfl _ _ (load_one one_u64v hw'.2.2)⟩) hS ?_
      simp only [Act.put, zE1, zE2, zE3]
      refine wpAnyH_ready (rs := [7]) (by kernel_rfl) (by simp) ?_
      refine AllReadyH.cons rfl (fun K hK => ?_) AllReadyH.nil
      refine step_callW _ (by rfl) (some 56) rfl 17 #[.tmp 55] #[5] rfl (fun q w' => by rfl) #[.int .u8 sd] (by simp only [List.map_toArray, List.map_cons, List.map_nil]; rfl) (fun v w' => ∃ ro rc, v = .slice ro 624 rc ∧ Byt w' (.slice ro 624 rc) (rcd sd 624) ∧ Below y1.heap.size y1 w') ?_ ?_
      · exact SRC.out _
      rintro _ y2 ⟨ro, rc, rfl, y9, B9⟩
      have HY : Hid (Byt y2 (.slice ro 624 rc) (rcd sd 624)) := y9
      have HB : Hid (Bs H M' y2 B b l') := HB.out.below B9
      have hS : y2.cell? ⟨w.heap.size, 7, none⟩ = some (.slice (some ⟨tb, tf, none⟩) nt sc) ∧ y2.cell? ⟨tb, tf + k * 3, none⟩ = some (.int .u8 sd) ∧ y2.cell? ⟨tb, tf + k * 3 + 1, none⟩ = some (.int .u64 gen) := ⟨by rw [B9.cell (World.block_lt_of_cell? _ _ hS.1)]; exact hS.1, by rw [B9.cell (World.block_lt_of_cell? _ _ hS.2.1)]; exact hS.2.1, by rw [B9.cell (World.block_lt_of_cell? _ _ hS.2.2)]; exact hS.2.2⟩
      have BB : Hid (Below w2.heap.size w2 y2) := BB.out.trans (B9.mono BB.out.size)
      clear y9 B9
      refine hK.out _ _ hS (fun _ => ?_)
      simp only [Act.put, zE1, zE2, zE3]
      clear hK K
      refine wpAnyH_ready (rs := [14]) (by kernel_rfl) (by simp) ?_
      refine AllReadyH.cons rfl (fun K hK => ?_) AllReadyH.nil
      refine step_callW _ (by rfl) (some 63) rfl 18 #[.tmp 49, .tmp 56, .tmp 62] #[34, 35, 41] rfl (fun q w' => by rfl) #[.pointer (some ⟨B, 0, none⟩), .slice ro 624 rc, .int .u64 gen] (by simp only [List.map_toArray, List.map_cons, List.map_nil]; rfl) (fun v w' => v = .int .i64 e1 ∧ ∃ M5 l5, Bs H M5 w' B b1 l5 ∧ Fr M' y2 B M5 w') ?_ ?_
      · exact (SC.out _ _ _ HB.out HY.out (HT2.out.below BB.out)).mono (by rintro e w' ⟨M5, l5, h1, h2, h3⟩; exact ⟨_, h1, rfl, M5, l5, h2, h3⟩)
      rintro _ y3 ⟨rfl, M5, l5, b9, f9⟩
      have B9 : Below w2.heap.size y2 y3 := f9.below BB.out.size HM.out.1 HM.out.2
      have hS : y3.cell? ⟨w.heap.size, 7, none⟩ = some (.slice (some ⟨tb, tf, none⟩) nt sc) ∧ y3.cell? ⟨tb, tf + k * 3, none⟩ = some (.int .u8 sd) ∧ y3.cell? ⟨tb, tf + k * 3 + 1, none⟩ = some (.int .u64 gen) := ⟨by rw [B9.cell (p := ⟨w.heap.size, 7, none⟩) LX.out.1]; exact hS.1, by rw [B9.cell (p := ⟨tb, tf + k * 3, none⟩) LX.out.2]; exact hS.2.1, by rw [B9.cell (p := ⟨tb, tf + k * 3 + 1, none⟩) LX.out.2]; exact hS.2.2⟩
      have HB5 : Hid (Bs H M5 y3 B b1 l5) := b9
      have HM5 : Hid ((∀ k, M5 k = true → w2.heap.size ≤ k) ∧ w2.heap.size ≤ B) := ⟨f9.up BB.out.size HM.out.1, HM.out.2⟩
      have BB : Hid (Below w2.heap.size w2 y3) := BB.out.trans B9
      clear b9 f9 B9
      refine hK.out _ _ hS (fun _ => ?_)
      simp only [Act.put, zE1, zE2, zE3]
      clear hK K
      refine tkH 15 (some 11) (.int .i64 e1) rfl rfl (Or.inl ⟨by rfl, fun w' hw' => by rfl⟩) hS ?_
      simp only [Act.put, zE1, zE2, zE3]
      refine wpAnyH_done (by kernel_rfl) ?_ _
      clear hS
      go_wp2
      have HS11 : Hid (y3.drew.rangeAt w.heap.size 0 [.int .i64 (N : Int), .int .i64 (P : Int), .int .i64 (S : Int), .int .i64 g3, .int .i64 g4, .int .i64 g5]) := (range_heap (range6v (HX2.out.below BB.out BW.out.2).1) rfl)
      have HB5 : Hid (Bs H M5 y3.drew B b1 l5) := HB5.out.below (fa.below_drawn (Below.refl _ _) 1)
      have BB : Hid (Below w2.heap.size w2 y3.drew) := fa.below_drawn BB.out 1
      refine wp_region_held_drew (S := fun w' => w'.rangeAt w.heap.size 0 [.int .i64 (N : Int), .int .i64 (P : Int), .int .i64 (S : Int), .int .i64 g3, .int .i64 g4, .int .i64 g5]) (by kernel_rfl) HS11.out (fun hS => ?_)
      obtain ⟨u1, hx0⟩ : ∃ x, x = y3.drew := ⟨_, rfl⟩
      rw [← hx0] at hS HB5 BB ⊢
      clear hx0
      refine tkH 0 (some 64) (.pointer (some ⟨H.c, 0, none⟩)) rfl rfl (Or.inl ⟨by rfl, fun w' hw' => by rfl⟩) hS ?_
      simp only [Act.put, zE1, zE2, zE3]
      refine tkH 2 (some 66) (.int .i64 O1) rfl rfl (Or.inl ⟨by rfl, fun w' hw' => by rfl⟩) hS ?_
      simp only [Act.put, zE1, zE2, zE3]
      refine tkH 4 (some 68) (.pointer (some ⟨w.heap.size, 0, none⟩)) rfl rfl (Or.inl ⟨by rfl, fun w' hw' => by go_simp⟩) hS ?_
      simp only [Act.put, zE1, zE2, zE3]
      refine tkH 5 (some 69) (.agg ([.int .i64 (N : Int), .int .i64 (P : Int), .int .i64 (S : Int), .int .i64 g3, .int .i64 g4, .int .i64 g5] : List Value).toArray) rfl rfl (Or.inl ⟨by rfl, fun w' hw' => by exact exec_loadN 23 (.tmp 68) rfl _ rfl _ _ (load_cells rowy_geo hw')⟩) hS ?_
      simp only [Act.put, zE1, zE2, zE3]
      refine wpAnyH_ready (rs := [1]) (by kernel_rfl) (by simp) ?_
      refine AllReadyH.cons rfl (fun K hK => ?_) AllReadyH.nil
      refine step_callW _ (by rfl) (some 65) rfl 23 #[.tmp 64] #[30] rfl (fun q w' => by rfl) #[.pointer (some ⟨H.c, 0, none⟩)] (by simp only [List.map_toArray, List.map_cons, List.map_nil]; rfl) (fun v w' => v = .int .i64 O2 ∧ w' = u1) ?_ ?_
      · exact (ops_cs HB5.out.1).mono (by rintro e w' ⟨h1, h2⟩; exact ⟨_, h1, congrArg (Value.int .i64) EO2.out, h2⟩)
      rintro _ u2 ⟨rfl, hw⟩
      obtain rfl := hw.symm
      refine hK.out _ _ hS (fun _ => ?_)
      simp only [Act.put, zE1, zE2, zE3]
      clear hK K
      refine tkH 3 (some 67) (.int .i64 DL) rfl rfl (Or.inl ⟨by rfl, fun w' hw' => by exact exec_sub (.tmp 65) (.tmp 66) rfl O2 O1 DL rfl rfl WD.out.1⟩) hS ?_
      simp only [Act.put, zE1, zE2, zE3]
      refine wpAnyH_ready (rs := [6]) (by kernel_rfl) (by simp) ?_
      refine AllReadyH.cons rfl (fun K hK => ?_) AllReadyH.nil
      refine step_callW _ (by rfl) (some 70) rfl 22 #[.tmp 69] #[23] rfl (fun q w' => by rfl) #[.agg (ints .i64 [(N : Int), (P : Int), (S : Int), g3, g4, g5])] (by simp only [List.map_toArray, List.map_cons, List.map_nil]; rfl) (fun v w' => v = .int .i64 (n : Int) ∧ Below u1.heap.size u1 w') ?_ ?_
      · exact (SCH.out _).mono (by rintro e w' ⟨h1, h2⟩; exact ⟨_, h1, rfl, h2⟩)
      rintro _ u3 ⟨rfl, B9⟩
      have hS : u3.rangeAt w.heap.size 0 [.int .i64 (N : Int), .int .i64 (P : Int), .int .i64 (S : Int), .int .i64 g3, .int .i64 g4, .int .i64 g5] := range_heap hS (B9.block w.heap.size (range_lt hS (Nat.succ_pos _)))
      have HB5 : Hid (Bs H M5 u3 B b1 l5) := HB5.out.below B9
      have BB : Hid (Below w2.heap.size w2 u3) := BB.out.trans (B9.mono BB.out.size)
      clear B9
      refine hK.out _ _ hS (fun _ => ?_)
      simp only [Act.put, zE1, zE2, zE3]
      clear hK K
      refine tkH 7 (some 71) (.int .i64 ((n : Int) + 6)) rfl rfl (Or.inl ⟨by rfl, fun w' hw' => by exact exec_add (.tmp 70) (.const (.int .i64 6)) rfl (n : Int) 6 _ rfl rfl WN.out.1⟩) hS ?_
      simp only [Act.put, zE1, zE2, zE3]
      refine tkH 8 (some 72) (.int .i64 (8 * ((n : Int) + 6))) rfl rfl (Or.inl ⟨by rfl, fun w' hw' => by exact exec_mul (.const (.int .i64 8)) (.tmp 71) rfl 8 ((n : Int) + 6) _ rfl rfl WN.out.2⟩) hS ?_
      simp only [Act.put, zE1, zE2, zE3]
      refine tkH 9 (some 73) (.bool false) rfl rfl (Or.inl ⟨by rfl, fun w' hw' => by exact exec_gtrN (.tmp 67) (.tmp 72) rfl DL (8 * ((n : Int) + 6)) rfl rfl WD.out.2⟩) hS ?_
      simp only [Act.put, zE1, zE2, zE3]
      refine wpAnyH_done (by kernel_rfl) ?_ _
      clear hS
      have t5 := tR
      by_cases h4 : e1 = 4
      · subst h4
        clear HJ1
        go_wp2_with (first
            | (have q6 := t6; go_at_call 10; refine (open_any HC5.out rfl (HT2.out.below BB.out)).mono ?_; rintro e9 w6 ⟨B6, a6, g6, r6, ro6, rn6, rc6, x6, rfl, b9, -, k9, -, -, lb9, B9⟩; have HB6 : Hid (Bs H M5 w6 B6 (bx0 (na.pwr b1.s true) a6 g6 (hfl l5)) l5) := b9; have HM6 : Hid ((∀ k, M5 k = true → w2.heap.size ≤ k) ∧ w2.heap.size ≤ B6) := ⟨HM5.out.1, Nat.le_trans BB.out.size lb9⟩; have HP6 : Hid (Plc a6) := kc_plc k9; have BB : Hid (Below w2.heap.size w2 w6) := BB.out.trans (B9.mono BB.out.size); clear b9 k9 lb9 B9 t6; have t7 := tR)
            | (have q5 := t5; go_at_call 14; refine (power_cs HB5.out.1 true).mono ?_; rintro e9 w5 ⟨⟨pv1, rfl⟩, c9, f9⟩; have HC5 : Hid (Cs H M5 w5 (na.pwr b1.s true) l5) := c9; have BB : Hid (Below w2.heap.size w2 w5) := BB.out.trans (f9.below BB.out.size HM5.out.1); clear c9 f9 t5; have t6 := tR))
        go_roundw
        case rel => exact ⟨k + 1, B6, _, M5, l5, by omega, by go_num, rfl, HB6, BB, HM6, ⟨oj_bx0 _ _ _ _, HP6.out, HO8.out⟩⟩
        case measure => simp [intOf]; omega
      · have n4 : (e1 == 4) = false := beq_eq_false_iff_ne.2 h4
        have HJ9 : Hid (J P (S + 88) b1) := (HJ1.out h4).1
        by_cases h0 : e1 = 0
        · subst h0
          cases hlk : (b1.lk 0 || b1.lk 1 || b1.lk 2 || b1.lk 3) with
          | true =>
            have HLK : Hid ((b1.lk 0 || b1.lk 1 || b1.lk 2 || b1.lk 3) = true) := hlk
            clear hlk HJ1 n4 h4
            go_wp2_with (first
                | (have q5 := t5; go_at_call 25; refine (leaks_bs HB5.out.2.2.1).mono ?_; rintro e9 w5 ⟨rfl, hw⟩; obtain rfl := hw.symm; rw [HLK.out]; clear t5; have t6 := tR))
            go_roundw
            case rel => exact ⟨k + 1, B, b1, M5, l5, by omega, by go_num, rfl, HB5, BB, HM5, ⟨HJ9.out, HP1.out, HO8.out⟩⟩
            case measure => simp [intOf]; omega
          | false =>
            have HLK : Hid ((b1.lk 0 || b1.lk 1 || b1.lk 2 || b1.lk 3) = false) := hlk
            have HGN : Hid (∀ j : Nat, j < 4 → (j : Int) ≠ b1.cur → Fsh P (S + 88) b1.s j ∨ Nul P (S + 88) b1.s j) := (HJ1.out h4).2.2 rfl (lk_all hlk)
            have HHL : Hid (H.N * (H.P * H.T) = LL) := by have hh := HH.out; unfold Ch.T; rw [hh.1, hh.2.1, hh.2.2.1]; exact HLL.out.1
            clear hlk HJ1 n4 h4
            go_wp2_with (first
                | (have q6 := t6; go_at_call 19; refine (image_cs HB5.out.1).mono ?_; rintro e9 w6 ⟨ao, cap, rfl, y9, B9⟩; rw [HHL.out] at y9 ⊢; have HY6 : Hid (Byt w6 (.slice ao LL cap) (na.img H.N H.P b1.s)) := y9; have HB6 : Hid (Bs H M5 w6 B b1 l5) := HB5.out.below B9; have BB : Hid (Below w2.heap.size w2 w6) := BB.out.trans (B9.mono BB.out.size); have HV6 := HX2.out.below BB.out BW.out.2; have z_0 := HV6.cell 0 _ rfl; clear y9 B9 HV6 t6; have t7 := tR)
                | (have q5 := t5; go_at_call 25; refine (leaks_bs HB5.out.2.2.1).mono ?_; rintro e9 w5 ⟨rfl, hw⟩; obtain rfl := hw.symm; rw [HLK.out]; clear t5; have t6 := tR))
            go_loopw [13] (fun i wy => ∃ j : Nat, j ≤ 4 ∧ i = .int .i64 (j : Int) ∧ Hid (Below w6.heap.size w6 wy)) (fun i _ => 4 - (intOf i).toNat)
            case atStart => exact ⟨0, by omega, rfl, Below.refl _ _⟩
            case round =>
              obtain ⟨j, hj, rfl, BI⟩ := hrel
              obtain ⟨wy, ewy⟩ : ∃ wy : World, wy = wr := ⟨_, rfl⟩
              subst ewy
              by_cases hj4 : j < 4
              · have lj1 : (j : Int) < 4 := by omega
                have lj2 : IntKind.i64.wrap ((j : Int) + 1) = (j : Int) + 1 := by rw [IntKind.wrap_i64]; omega
                by_cases hc : (j : Int) = b1.cur
                · have nc1 : ((j : Int) != b1.cur) = false := by simp [hc]
                  clear hc
                  have tA := tR
                  go_wp2_with (first
                      | (have qA := tA; go_at_call 26; refine (current_bs (HB6.out.below BI.out).2.2.1).mono ?_; rintro e9 v9 ⟨rfl, hw⟩; obtain rfl := hw.symm; clear tA; have tB := tR))
                  go_roundw
                  case rel => exact ⟨j + 1, by omega, by go_num, BI⟩
                  case measure => simp [intOf]; omega
                · have nc1 : ((j : Int) != b1.cur) = true := bne_iff_ne.2 hc
                  obtain ⟨⟨xg, hx1, hx2⟩, hjl⟩ := gone_blk (HGN.out j hj4 hc)
                  have HXG : Hid ((xg = 255 ∨ xg = 0) ∧ Allx (na.jnd P (na.pgs b1.s j)) xg) := ⟨hx1, hx2⟩
                  have HJL : Hid ((na.jnd P (na.pgs b1.s j)).length = nb) := by show _ = _; rw [hjl, HLL.out.2.1]
                  have hle : j * nb + nb ≤ LL := by
                    have z1 := HLL.out
                    have z2 := HN4.out
                    rw [← z1.1, ← z1.2.1]
                    have : (j + 1) * nb ≤ N * nb := Nat.mul_le_mul_right nb (by omega)
                    rw [Nat.succ_mul] at this
                    exact this
                  have hjn : j * nb ≤ 3 * 4320 := Nat.mul_le_mul (by omega) HLL.out.2.2
                  have wj1 : IntKind.i64.wrap ((j : Int) * (nb : Int)) = ((j * nb : Nat) : Int) := by rw [show (j : Int) * (nb : Int) = ((j * nb : Nat) : Int) by push_cast; rfl, IntKind.wrap_i64]; omega
                  have wj2 : IntKind.i64.wrap (((j * nb : Nat) : Int) + (nb : Int)) = ((j * nb + nb : Nat) : Int) := by have := HLL.out.2.2; rw [IntKind.wrap_i64]; omega
                  have HCU : Hid (((na.img H.N H.P b1.s).take (j * nb + nb)).drop (j * nb) = na.jnd P (na.pgs b1.s j)) := by
                    have hh := HH.out
                    have z := na.cut_blk H.N H.P H.T b1.s (fun b hb p hp => ((HB6.out.1.2.2.1 b hb).1 p hp).1) j (by rw [hh.1]; have := HN4.out; omega)
                    have e1 : H.P * H.T = nb := by unfold Ch.T; rw [hh.2.1, hh.2.2.1]; exact HLL.out.2.1.symm
                    rw [e1, hh.2.1] at z
                    show _ = _
                    rw [List.drop_take, show j * nb + nb - j * nb = nb by omega, hh.2.1]
                    exact z
                  have HIL : (na.img H.N H.P b1.s).length = LL := by
                    rw [na.img_len HB6.out.1.2.2.1]; exact HHL.out
                  obtain ⟨J1, ej1⟩ : ∃ J1, j * nb = J1 := ⟨_, rfl⟩
                  rw [ej1] at wj1 wj2 HCU hle
                  obtain ⟨J2, ej2⟩ : ∃ J2, J1 + nb = J2 := ⟨_, rfl⟩
                  rw [ej2] at wj2 HCU hle
                  have HJN : Hid (J1 ≤ J2 ∧ J2 ≤ (na.img H.N H.P b1.s).length) := ⟨by omega, by rw [HIL]; exact hle⟩
                  clear hc hx1 hx2 hjl hle hjn HIL ej1 ej2
                  have tA := tR
                  go_wp2_with (first
                      | (have qD := tD; go_at_call 27; refine (gone_yes wy.heap.size nb cc co _ w7 r0 HYC.out HJL.out (by have := HLL.out.2.2; omega) xg HXG.out.1 HXG.out.2).mono ?_; rintro e9 w8 ⟨rfl, B9⟩; have BJ : Hid (Below w6.heap.size w6 w8) := BJ.out.trans (B9.mono BJ.out.size); clear B9 tD r0; have tE := tR)
                      | (have qC := tC; refine one_lawR2 _ (by rfl) (.tmp 118) rfl (.slice co nb cc) ⟨_, _, _, rfl⟩ rfl ?_; intro w7 o9 B9; have r0 := o9; have HYC : Hid (Byt w7 (.slice co nb cc) (na.jnd P (na.pgs b1.s j))) := HYC.out.below B9; have BJ : Hid (Below w6.heap.size w6 w7) := BI.out.trans (B9.mono BI.out.size); clear o9 B9 tC; have tD := tR)
                      | (have qB := tB; refine cut_partG _ (by rfl) (.tmp 109) (.tmp 112) (.tmp 117) rfl _ (na.img H.N H.P b1.s) _ _ J1 J2 rfl rfl rfl rfl rfl HJN.out.1 HJN.out.2 (HY6.out.below BI.out) ?_; intro cv9 y9; rw [HCU.out] at y9; obtain ⟨co, cc, rfl⟩ := he.byt_form y9 HJL.out; have HYC : Hid (Byt wy (.slice co nb cc) (na.jnd P (na.pgs b1.s j))) := y9; clear y9 tB; have tC := tR)
                      | (have qA := tA; go_at_call 26; refine (current_bs (HB6.out.below BI.out).2.2.1).mono ?_; rintro e9 v9 ⟨rfl, hw⟩; obtain rfl := hw.symm; clear tA; have tB := tR))
                  go_roundw
                  case rel => exact ⟨j + 1, by omega, by go_num, BJ⟩
                  case measure => simp [intOf]; omega
              · have ej : j = 4 := by omega
                subst ej
                go_wp2
                go_roundw
                case rel => exact ⟨k + 1, B, b1, M5, l5, by omega, by go_num, rfl, HB6.out.below BI.out, BB.out.trans (BI.out.mono BB.out.size), HM5, ⟨HJ9.out, HP1.out, HO8.out⟩⟩
                case measure => simp [intOf]; omega
        · have n0 : (e1 != 0) = true := bne_iff_ne.2 h0
          clear HJ1 h0 h4
          go_wp2
          go_roundw
          case rel => exact ⟨k + 1, B, b1, M5, l5, by omega, by go_num, rfl, HB5, BB, HM5, ⟨HJ9.out, HP1.out, HO8.out⟩⟩
          case measure => simp [intOf]; omega
    · have ek : k = nt := by omega
      subst ek
      have t4 := tR
      go_wp2_with (first
        | (have q4 := t4; go_at_call 8; refine (awake_any _ (HT2.out.below BB.out)).mono ?_; rintro e9 v9 ⟨rfl, B9⟩; have BZ : Hid (Below w2.heap.size w2 v9) := BB.out.trans (B9.mono BB.out.size); clear B9 t4; have t5 := tR))
      go_ret
      exact ⟨rfl, BW.out.1.trans (BZ.out.mono BW.out.1.size)⟩
end Go.Proofs.YtakibiigcdgohaaGreatDoor.vb
