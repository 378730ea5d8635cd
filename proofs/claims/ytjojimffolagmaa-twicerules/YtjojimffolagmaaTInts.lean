/- Rows of whole numbers ([]int): made, grown, read, written. No claim of its own. -/
import Derived.Test.YtjojimffolagmaaTPoly
import Derived.Laws.AppendOwnNone
namespace Go.Proofs.Ytjojimffolagmaa
open Go.RowKit

theorem info_intT : (Try.prog.info? 3).map (fun i => (i.zero, i.size, i.bytes)) = some (some (.int .i64 0), 1, 8) := by kernel_rfl
theorem i_int : (Try.prog.info? 3).map (·.size) = some 1 := by kernel_rfl
theorem und_ints : Try.prog.underlying 45 = some (.slice (Try.prog.elem 45)) := by kernel_rfl
theorem elem_ints : Try.prog.elem 45 = 3 := by kernel_rfl

/-- v is a slice of the numbers cs, from the beginning of a block on -/
def Its (w : World) (v : Value) (cs : List Int) : Prop := ∃ g cap, v = .slice (some ⟨g, 0, none⟩) cs.length cap ∧ cs.length ≤ cap ∧ cap ≤ 9223372036854775807 ∧ Ar w g 0 .i64 cs ∧ g < w.heap.size
theorem Its.below {w w' : World} {v : Value} {cs : List Int} (h : Its w v cs) (hb : Below w.heap.size w w') : Its w' v cs := by
  obtain ⟨g, cap, rfl, h1, h2, h3, h4⟩ := h
  exact ⟨g, cap, rfl, h1, h2, h3.below hb h4, Nat.lt_of_lt_of_le h4 hb.size⟩
/-- v owns the numbers cs, in a block from B on -/
def OwnI (B : Nat) (w : World) (v : Value) (cs : List Int) : Prop := w.ownsRow B 3 1 v cs.length (cs.map (Value.int .i64))
theorem OwnI.empty (w : World) {B : Nat} (hB : B ≤ w.heap.size) : OwnI B (w.alloc (.cells #[] 3)) (.slice (some ⟨w.heap.size, 0, none⟩) 0 0) [] :=
  World.ownsRow_made w #[] 0 hB (by simp [maxLen]) (by simp)
theorem OwnI.one (w : World) {B : Nat} (hB : B ≤ w.heap.size) (x : Int) : OwnI B (w.alloc (.cells #[.int .i64 x] 3)) (.slice (some ⟨w.heap.size, 0, none⟩) 1 1) [x] :=
  World.ownsRow_lit w #[.int .i64 x] 1 hB (by simp [maxLen]) (by simp)
theorem OwnI.its {B : Nat} {w : World} {v : Value} {cs : List Int} (h : OwnI B w v cs) (hp : 0 < cs.length) : ∃ g cap, v = .slice (some ⟨g, 0, none⟩) cs.length cap ∧ cs.length ≤ cap ∧ cap ≤ 9223372036854775807 ∧ B ≤ g ∧ g < w.heap.size ∧ Ar w g 0 .i64 cs := by
  have hlt := World.ownsRow.lt h
  rcases h.2 with ⟨rfl, hn⟩ | ⟨g, cap, cur, rfl, hg, hb, hc, hm, hs, ht⟩
  · omega
  · refine ⟨g, cap, rfl, hc, by simpa [maxLen] using hm, hg, (hlt g rfl).2, Ar.mk fun i hi => ?_⟩
    rw [Nat.zero_add]
    refine ⟨?_, World.ownsRow.frozenAt h i⟩
    rw [World.ownsRow.cellAt h i (by omega)]
    simp [gb, List.getD, hi]

section
variable {ops : Array Oper} {rest : List Oper} {o : Oper} {a : Act} {Q : Exit → Act → World → Prop}
/-- 'append(out, c)' of a number, out of the call's own -/
theorem push_lawI (w0 : World) (hg : o.guard = none) (s x : Operand) (hop : o.op = .call { callee := .builtin .append, args := #[s, x], argTypes := #[45, 45] })
    (B : Nat) (hB : B ≤ w0.heap.size) (v : Value) (xs : List Int) (c : Int) (hs : a.eval s = v) (hx : a.eval x = .slice (some ⟨w0.heap.size, 0, none⟩) 1 1) (hown : OwnI B w0 v xs) (hn : xs.length ≤ 1000000)
    (hK : ∀ v' w', OwnI B w' v' (xs ++ [c]) → Below B w0 w' → wpList Try.prog ops Q rest (a.put o.dst v') w') :
    wpList Try.prog ops Q (o :: rest) a (w0.alloc (.cells #[.int .i64 c] 3)) := by
  obtain ⟨i0, hi, hz0, hz1, hz2⟩ := info_parts info_intT
  refine wpList_append_own _ hg s x 45 hop B 3 i0 (.int .i64 0) 1 8 Try.underlying45 hi hz0 hz1 hz2 rfl (by decide) v xs.length _ hs (World.ownsRow.alloc hown _) ⟨w0.heap.size, 0, none⟩ 1 1 [.int .i64 c] hx rfl ?_ ?_ (by simp only [maxLen]; omega) (by omega) (by simp; omega) fun v' w' h1 h2 _ => ?_
  · intro j u hj
    match j, hj with
    | 0, hj => simp at hj; subst hj; simp [Addr.add]
  · intro u hu; simp at hu; subst hu; rfl
  · refine hK v' w' ?_ ?_
    · show w'.ownsRow B 3 1 v' (xs ++ [c]).length ((xs ++ [c]).map (Value.int .i64))
      simpa using h1
    · refine ((Below.refl B w0).alloc hB _).grown h2 (by simp; omega) fun k hk => ?_
      exact (World.ownsRow.lt hown k hk).1
/-- 'append(out, s...)' of numbers, out of the call's own -/
theorem pushs_lawI (w : World) (hg : o.guard = none) (s x : Operand) (hop : o.op = .call { callee := .builtin .append, args := #[s, x], argTypes := #[45, 45] })
    (B : Nat) (hB : B ≤ w.heap.size) (v vy : Value) (xs ys : List Int) (hs : a.eval s = v) (hx : a.eval x = vy) (hown : OwnI B w v xs) (hy : Its w vy ys) (hn : xs.length ≤ 1000000) (hm : ys.length ≤ 1000000)
    (hK : ∀ v' w', OwnI B w' v' (xs ++ ys) → Below B w w' → wpList Try.prog ops Q rest (a.put o.dst v') w') :
    wpList Try.prog ops Q (o :: rest) a w := by
  obtain ⟨i0, hi, hz0, hz1, hz2⟩ := info_parts info_intT
  obtain ⟨g, cap, rfl, h1, h2, h3, h4⟩ := hy
  refine wpList_append_own _ hg s x 45 hop B 3 i0 (.int .i64 0) 1 8 Try.underlying45 hi hz0 hz1 hz2 rfl (by decide) v xs.length _ hs hown ⟨g, 0, none⟩ ys.length cap (ys.map (Value.int .i64)) hx (by simp) ?_ ?_ (by simp only [maxLen]; omega) (by omega) hB fun v' w' h1 h2 _ => ?_
  · intro j u hj
    have hjl : j < ys.length := by have := (List.getElem?_eq_some_iff.1 hj).1; simpa using this
    rw [Addr.add_mid, h3.cell j hjl, ← hj]
    simp [gb, List.getD, hjl]
  · intro u hu
    simp only [List.mem_map] at hu
    obtain ⟨y, _, rfl⟩ := hu
    rfl
  · refine hK v' w' ?_ ?_
    · show w'.ownsRow B 3 1 v' (xs ++ ys).length ((xs ++ ys).map (Value.int .i64))
      simpa using h1
    · exact (Below.refl B w).grown h2 hB fun k hk => (World.ownsRow.lt hown k hk).1
/-- 'make([]int, n)' -/
theorem make_lawI (w : World) (hg : o.guard = none) (l c : Operand) (hop : o.op = Op.makeSlice 45 l c)
    (L : Int) (n : Nat) (hl : a.eval l = .int .i64 L) (hc : a.eval c = .int .i64 L) (hL : L = (n : Int)) (hn : n ≤ 1000000)
    (hK : ∀ w', Ar w' w.heap.size 0 .i64 (List.replicate n 0) → Below w.heap.size w w' → w.heap.size < w'.heap.size → wpList Try.prog ops Q rest (a.put o.dst (.slice (some ⟨w.heap.size, 0, none⟩) n n)) w') :
    wpList Try.prog ops Q (o :: rest) a w := by
  obtain ⟨i0, hi, hz0, hz1, hz2⟩ := info_parts info_intT
  refine wpList_make_full w hg l c 45 hop w.heap.size 3 i0 (.int .i64 0) 1 Try.underlying45 hi hz0 hz1 .i64 .i64 L L n hl hc hL hL (by rw [hz2]; omega) (by simp only [maxLen]; omega) (Nat.le_refl _) fun w' h1 h2 => ?_
  have hlt : w.heap.size < w'.heap.size := (h1.lt w.heap.size rfl).2
  refine hK w' ?_ ((Below.refl _ w).grown h2 (Nat.le_refl _) (fun k hk => by cases hk)) hlt
  have e : (madeCells (Value.int .i64 0).cells (n * 1)).toList = (List.replicate n (0 : Int)).map (Value.int .i64) := by
    rw [Nat.mul_one]
    show (madeCells #[Value.int .i64 0] n).toList = _
    rw [toList_madeCells_one]; simp
  rw [e] at h1
  refine Ar.mk fun i hi => ?_
  rw [Nat.zero_add]
  have hi' : i < n := by simpa using hi
  refine ⟨?_, h1.frozenAt i⟩
  rw [h1.cellAt i (by omega)]
  simp [gb, List.getD, hi']
/-- one number of a row is written; the world gets a name -/
theorem set_lawF (w : World) (hg : o.guard = none) (x y : Operand) (t : TypeId) (hop : o.op = Op.store t x y) (k : IntKind) (n : Int) (b p : Nat) (xs : List Int) (hx : a.eval x = .pointer (some ⟨b, p, none⟩)) (hy : a.eval y = .int k n)
    (hA : Ar w b 0 k xs) (hp : p < xs.length) (hi : (Try.prog.info? t).map (·.size) = some 1)
    (hK : ∀ w', Ar w' b 0 k (xs.set p n) → Below b w w' → wpList Try.prog ops Q rest (a.put o.dst undef) w') :
    wpList Try.prog ops Q (o :: rest) a w := by
  refine wpList_plain hg fun K hK' => ?_
  have hc : (w.cell? ⟨b, p, none⟩).isSome = true := by rw [hA.cell0 p hp]; rfl
  have hf := hA.free0 p hp
  have hr : (storeVar t ⟨b, p, none⟩ (.int k n)).run Try.prog w = .ok () (w.setCell ⟨b, p, none⟩ (.int k n)) := by
    have e0 : ∀ j, j < [Value.int k n].length → j = 0 := fun j hj => by simpa using hj
    have := run_storeCells_cells (P := Try.prog) b p [.int k n] 0 w (fun j hj => by rw [e0 j hj]; simpa using hc) (fun j hj => by rw [e0 j hj]; simpa using hf) (fun v hv => by simp at hv; subst hv; rfl)
    cases hq : Try.prog.info? t with
    | none => simp [hq] at hi
    | some i =>
      have hs : i.size = 1 := by simpa [hq] using hi
      simp only [Nat.add_zero] at this
      simp [storeVar, sizeOf, typeInfo, hq, Value.cells, hs]
      simpa [World.setCells] using this
  unfold Oper.wp execOp
  simp only [hop, hx, hy, Instr.storeAt, Instr.sureAddr, Sem.run_bind, Sem.run_pure, Result.andThen_ok, hr]
  exact hK' _ _ (hK _ (hA.set0 p hp n) ((Below.refl b w).setCell (p := ⟨b, p, none⟩) (Nat.le_refl _) _))
end

/-! ### bits -/
theorem b01_mod (b j : Nat) : ((b / 2 ^ j : Nat) : Int) % 2 = b01 (b.testBit j) := by
  rw [Nat.testBit_eq_decide_div_mod_eq]
  unfold b01
  by_cases h : b / 2 ^ j % 2 = 1
  · rw [decide_eq_true h, if_pos rfl]; omega
  · rw [decide_eq_false h, if_neg (by decide)]; omega
theorem b01_bd (c : Bool) : 0 ≤ b01 c ∧ b01 c ≤ 1 := by cases c <;> simp [b01]
theorem cf_take (L n t : Nat) (h : t < L) : (cf L n).take (t + 1) = (cf L n).take t ++ [b01 (n.testBit t)] := by
  rw [List.take_succ_eq_append_getElem (by rw [cf_len]; exact h)]
  simp [cf]
theorem half_pow (b j : Nat) : b / 2 ^ j / 2 = b / 2 ^ (j + 1) := by rw [Nat.div_div_eq_div_mul, Nat.pow_succ]

set_option linter.unusedSimpArgs false in
set_option maxRecDepth 20000 in
set_option maxHeartbeats 4000000 in
theorem rbits_any (v : Value) (xs : List Int) (w : World) (hv : Byt w v xs) (hl : xs.length = 16) :
    Calls Try.prog 24 #[v] w fun e w' => ∃ v', e = .returned v' ∧ Its w' v' (cf 128 (nm16 xs)) ∧ Below w.heap.size w w' := by
  have HX : Hid (AllB xs) := hv.all
  obtain ⟨ao, ca, rfl, ha1, ha2, ha3, ha4, ha5⟩ := hv
  obtain ⟨bb, bo, rfl, hcell⟩ := ha5 (by omega)
  have HC : Hid (∀ t, t < 16 → w.cell? ⟨bb, bo + t, none⟩ = some (.int .u8 (gb xs t))) := by
    show ∀ t, _
    rw [← hl]; exact hcell
  have hbw : bb < w.heap.size := World.block_lt_of_cell? w _ (hcell 0 (by omega))
  have HT : Hid (∀ i j, i < 16 → j < 8 → (cf 128 (nm16 xs)).take (8 * i + j + 1) = (cf 128 (nm16 xs)).take (8 * i + j) ++ [(((gb xs i).toNat / 2 ^ j : Nat) : Int) % 2]) := fun i j hi hj => by
    rw [cf_take _ _ _ (by omega), nm_bit xs ha3 i j hi hj, b01_mod]
  have HL : Hid ((cf 128 (nm16 xs)).length = 128 ∧ (cf 128 (nm16 xs)).take 128 = cf 128 (nm16 xs)) := ⟨cf_len _ _, by rw [List.take_of_length_le (by rw [cf_len]; omega)]⟩
  rw [hl] at ha1 ⊢
  clear hcell ha3 ha4 ha5 hl
  generalize cf 128 (nm16 xs) = zs at *
  go_enter Try.func24, Try.ntmps24
  go_wp2
  go_loopw [3, 4] (fun u i wr => ∃ k : Nat, k ≤ 16 ∧ i = .int .i64 k ∧ OwnI w.heap.size wr u (zs.take (8 * k)) ∧ Below w.heap.size w wr) (fun _ i _ => 16 - (intOf i).toNat)
  case atStart => exact ⟨0, Nat.zero_le _, rfl, OwnI.empty w (Nat.le_refl _), (Below.refl _ _).alloc (Nat.le_refl _) _⟩
  case round =>
    obtain ⟨k, hk, rfl, hO, hB⟩ := hrel
    obtain ⟨wa, rfl⟩ : ∃ wx, wx = wr := ⟨_, rfl⟩
    have k0 : (0 : Int) ≤ (k : Int) := by omega
    have q1 : IntKind.i64.wrap (k : Int) = k := by rw [IntKind.wrap_i64]; omega
    have HO : Hid (OwnI w.heap.size wa u3 (zs.take (8 * k + 0))) := hO
    have HB : Hid (Below w.heap.size w wa) := hB
    have hsz := hB.size
    clear hO hB
    by_cases hlt : k < 16
    · have k1 : (k : Int) < 16 := by omega
      have c1 : wa.cell? ⟨bb, bo + k, none⟩ = some (.int .u8 (gb xs k)) := (HB.out.cell hbw).trans (HC.out k hlt)
      have bx := HX.out k
      obtain ⟨b, hb⟩ : ∃ b : Nat, b = (gb xs k).toNat := ⟨_, rfl⟩
      have hbx : gb xs k = (b : Int) := by omega
      have hb8 : b < 256 := by omega
      have HTk : Hid (∀ j, j < 8 → zs.take (8 * k + j + 1) = zs.take (8 * k + j) ++ [((b / 2 ^ j : Nat) : Int) % 2]) := fun j hj => by
        have := HT.out k j hlt hj
        rwa [← hb] at this
      rw [hbx] at c1
      clear hb bx hbx
      go_wp2
      go_loopw [3, 5, 6] (fun u n j wr => ∃ m : Nat, m ≤ 8 ∧ j = .int .i64 m ∧ n = .int .i64 ((b / 2 ^ m : Nat) : Int) ∧ OwnI w.heap.size wr u (zs.take (8 * k + m)) ∧ Below w.heap.size w wr) (fun _ _ j _ => 8 - (intOf j).toNat)
      case atStart => exact ⟨0, Nat.zero_le _, rfl, by simp, HO.out, HB.out⟩
      case round =>
        obtain ⟨m, hm, rfl, rfl, hO', hB'⟩ := hrel
        obtain ⟨wb, rfl⟩ : ∃ wx, wx = wr := ⟨_, rfl⟩
        have m0 : (0 : Int) ≤ (m : Int) := by omega
        have q2 : IntKind.i64.wrap (m : Int) = m := by rw [IntKind.wrap_i64]; omega
        have HO' : Hid (OwnI w.heap.size wb u3 (zs.take (8 * k + m))) := hO'
        have HB' : Hid (Below w.heap.size w wb) := hB'
        have hsz' := hB'.size
        clear hO' hB'
        by_cases hmt : m < 8
        · have m1 : (m : Int) < 8 := by omega
          have HN : Hid (b / 2 ^ m / 2 = b / 2 ^ (m + 1)) := half_pow b m
          have HTm : Hid (zs.take (8 * k + (m + 1)) = zs.take (8 * k + m) ++ [((b / 2 ^ m : Nat) : Int) % 2]) := HTk.out m hmt
          have hx8 : b / 2 ^ m < 256 := Nat.lt_of_le_of_lt (Nat.div_le_self _ _) hb8
          have HTL : Hid ((zs.take (8 * k + m)).length ≤ 128) := by show _ ≤ _; rw [List.length_take, HL.out.1]; omega
          generalize b / 2 ^ m = x at *
          go_wp2_with (at_builtin; refine push_lawI wb rfl (.tmp 21) (.tmp 24) rfl w.heap.size hsz' _ (zs.take (8 * k + m)) _ rfl rfl HO'.out (by have := HTL.out; omega) ?_; intro v' w1 O1 B1; have HO1 : Hid (OwnI w.heap.size w1 v' (zs.take (8 * k + (m + 1)))) := (by show OwnI _ _ _ _; rw [HTm.out]; exact O1); have HB1 : Hid (Below w.heap.size w w1) := HB'.out.trans B1; clear O1 B1)
          go_roundw
          case rel => exact ⟨m + 1, by omega, by go_num, by rw [← HN.out]; go_num, HO1.out, HB1.out⟩
          case measure => simp [intOf]; omega
        · have hm8 : m = 8 := by omega
          subst hm8
          have HO2 : Hid (OwnI w.heap.size wb u3 (zs.take (8 * (k + 1)))) := HO'.out
          go_wp2
          go_roundw
          case rel => exact ⟨k + 1, by omega, by go_num, HO2.out, HB'.out⟩
          case measure => simp [intOf]; omega
    · have hk16 : k = 16 := by omega
      subst hk16
      have HO2 : Hid (OwnI w.heap.size wa u3 zs) := by have := HO.out; rw [show 8 * 16 + 0 = 128 from rfl, HL.out.2] at this; exact this
      clear HO
      go_wp2
      go_ret
      obtain ⟨g, cap, e, h1, h2, h3, h4, h5⟩ := HO2.out.its (by rw [HL.out.1]; omega)
      exact ⟨_, rfl, ⟨g, cap, e, h1, h2, h5, h4⟩, HB.out⟩
end Go.Proofs.Ytjojimffolagmaa
