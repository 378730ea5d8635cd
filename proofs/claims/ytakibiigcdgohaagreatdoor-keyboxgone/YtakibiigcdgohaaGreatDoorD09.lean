/- Parts of the proof: what KeyboxGone reaches. No claim of its own. -/
import Derived.WalkKit
import Derived.Deep.QuietTactic
import Derived.Laws.AppendOwnNone
import Derived.Deep.RegionHeld3
import Derived.Deep.WholeRow
import Derived.Deep.MidRow
import Derived.Laws.StructEq
import Derived.Deep.DeepCutAuto
import Derived.ArgAppend
import Derived.Lib.SliceRun
import Derived.WalkSmall
import Derived.ProofKit
import Derived.OpenShut
import Derived.BigQuiet
import Derived.Lib.MakeNoZero
import Derived.Test.YtakibiigcdgohaaGreatDoorD00
import Derived.Test.YtakibiigcdgohaaGreatDoorD01
import Derived.Test.YtakibiigcdgohaaGreatDoorD02
import Derived.Test.YtakibiigcdgohaaGreatDoorD03
import Derived.Test.YtakibiigcdgohaaGreatDoorD04
import Derived.Test.YtakibiigcdgohaaGreatDoorD05
import Derived.Test.YtakibiigcdgohaaGreatDoorD06
import Derived.Test.YtakibiigcdgohaaGreatDoorD07
import Derived.Test.YtakibiigcdgohaaGreatDoorD08
set_option maxHeartbeats 8000000
namespace Go.Proofs.YtakibiigcdgohaaGreatDoor.na
open Go.RowKit Go.Proofs.YtakibiigcdgohaaGreatDoor.fa
set_option maxRecDepth 20000
theorem zeros_ints (n : Nat) : (Builtin.zeroCells (Value.int .i64 0).cells n).toList = (List.replicate n (0 : Int)).map (Value.int .i64) := by
  simp only [Builtin.zeroCells, Value.cells, List.map_replicate]
  simp [Nat.mod_one, List.map_const']
theorem info_int : (Tryz.prog.info? 3).map (fun i => (i.zero, i.size, i.bytes)) = some (some (.int .i64 0), 1, 8) := by kernel_rfl
theorem clear_lawI {ops : Array Oper} {rest : List Oper} {a : Act} {Q : Exit → Act → World → Prop} {d : Option Tmp} {s : Operand} {ty : TypeId} {pos : String} {af : Array Edge} (w : World) (b n cap : Nat) (xs : List Int) (hs : a.eval s = .slice (some ⟨b, 0, none⟩) n cap) (hA : Ar w b 0 .i64 xs) (hl : xs.length = n) (hn : 0 < n)
    (hK : ∀ w', Hid (w' = w.setCells b 0 ((List.replicate n (0 : Int)).map (Value.int .i64))) → wpList Tryz.prog ops Q rest (a.put d (.tuple #[])) w') :
    wpList Tryz.prog ops Q (⟨d, .call { callee := .builtin .clear, args := #[s], argTypes := #[69] }, ty, pos, af, none⟩ :: rest) a w := by
  refine wpList_plain rfl fun K hK' => ?_
  obtain ⟨i0, hi, hz0, hz1, hz2⟩ := info_parts info_int
  obtain ⟨k, rfl⟩ : ∃ k, n = k + 1 := ⟨n - 1, by omega⟩
  have hst := run_storeCells_cells (P := Tryz.prog) b 0 ((List.replicate (k + 1) (0 : Int)).map (Value.int .i64)) 0 w (fun j hj => by rw [Nat.add_zero, Nat.zero_add, hA.cell0 j (by simp at hj; omega)]; rfl) (fun j hj => by rw [Nat.add_zero, Nat.zero_add]; exact hA.free0 j (by simp at hj; omega)) (fun v hv => by obtain ⟨z, -, rfl⟩ := List.mem_map.1 hv; rfl)
  have hrun : (Builtin.clear_ #[69] ty #[.slice (some ⟨b, 0, none⟩) (k + 1) cap]).run Tryz.prog w = .ok (.tuple #[]) (w.setCells b 0 ((List.replicate (k + 1) (0 : Int)).map (Value.int .i64))) := by
    rw [Nat.add_zero] at hst
    rw [List.map_replicate] at hst ⊢
    simp only [Builtin.clear_]
    simp [run_underlying Tryz.underlying69, zeroValue, typeInfo, hi, hz0, zeros_ints, hst]
  unfold Oper.wp execOp
  simp only [resolve, invoke, builtin, Sem.run_bind, Sem.run_pure, Result.andThen_ok, List.map_toArray, List.map_cons, List.map_nil, hs, hrun]
  exact hK' _ _ (hK _ rfl)
theorem at1_id {α : Type} (f : Nat → α) (b : Nat) : at1 f b (f b) = f := funext fun k => by
  unfold at1
  split
  · rename_i e; rw [e]
  · rfl
section
variable {M : Nat → Bool} {w : World} {c r d : Nat} {q : Nat → Nat} {pv tv : Value} {g : List Int} {N P S : Nat} {pl : Pln} {X : Raw}
theorem erase_off (h : Lay M w c r d q pv tv g N P S pl X) (ho : xo X = false) (b : Int) : Calls Tryz.prog 95 #[.pointer (some ⟨c, 0, none⟩), .int .i64 b] w fun e w' => e = .returned (.int .i64 4) ∧ w' = w := by
  have SB : Hid (Calls Tryz.prog 123 #[.pointer (some ⟨c, 0, none⟩), .int .i64 b] w fun e w' => e = .returned (.tuple #[.slice none 0 0, .int .i64 4]) ∧ w' = w) := blockCells_off h ho b
  clear h
  go_enter Tryz.func95, Tryz.ntmps95
  go_wp2_with (go_at_call 123; refine SB.out.mono ?_; rintro e w' ⟨rfl, hw⟩; obtain rfl := hw.symm)
  go_ret
  exact ⟨rfl, rfl⟩
theorem erase_no (h : Lay M w c r d q pv tv g N P S pl X) (ho : xo X = true) (b : Int) (hb : ¬ (0 ≤ b ∧ b < N)) : Calls Tryz.prog 95 #[.pointer (some ⟨c, 0, none⟩), .int .i64 b] w fun e w' => e = .returned (.int .i64 2) ∧ w' = w := by
  have SB : Hid (Calls Tryz.prog 123 #[.pointer (some ⟨c, 0, none⟩), .int .i64 b] w fun e w' => e = .returned (.tuple #[.slice none 0 0, .int .i64 2]) ∧ w' = w) := blockCells_no h ho b hb
  clear h hb
  go_enter Tryz.func95, Tryz.ntmps95
  go_wp2_with (go_at_call 123; refine SB.out.mono ?_; rintro e w' ⟨rfl, hw⟩; obtain rfl := hw.symm)
  go_ret
  exact ⟨rfl, rfl⟩
theorem erase_none (h : Lay M w c r d q pv tv g N P S pl X) (hM : Mlt M w) (ho : xo X = true) (b : Nat) (hb : b < N) (hpl : pl (xt X).length = none) (he : 0 ≤ xe X b ∧ xe X b ≤ 1000000) (htr : (xt X).length ≤ 1000000) :
    Calls Tryz.prog 95 #[.pointer (some ⟨c, 0, none⟩), .int .i64 (b : Int)] w (Done M w c r d q pv g N P S pl (ans none) (mkX (laid (xi X) (b * (P * S)) ((fun o : Option (Bool × List Int) => match o with | none => List.replicate (P * S) 255 | some (_, m) => ofb (P * S) (erased (cut (P * S) (xi X) b) m)) none)) (at1 (xp X) b (List.replicate P 0)) (at1 (xe X) b (xe X b + 1)) (at1 (xs X) b false) (!crs none) (xt X ++ [opn 2 b 0 [] (ans none)]))) := by
  have SB : Hid (Calls Tryz.prog 123 #[.pointer (some ⟨c, 0, none⟩), .int .i64 (b : Int)] w fun e w' => e = .returned (.tuple #[(.slice (some ⟨d, b * (P * S), none⟩) (P * S) (N * (P * S) - b * (P * S))), .int .i64 0]) ∧ Below w.heap.size w w') := blockCells_yes h ho b hb
  have HL : Hid (Lay M w c r d q pv tv g N P S pl X) := h
  have HM : Hid (Mlt M w) := hM
  have HBN : Hid (b < N) := hb
  have HF : Hid (b * (P * S) + P * S ≤ N * (P * S)) := by
    have := Nat.mul_le_mul_right (P * S) (show b + 1 ≤ N by omega)
    rw [Nat.succ_mul] at this
    exact this
  have HBY := h.bytes
  have SD : Hid (∀ w, Calls Tryz.prog 124 #[] w fun e w' => ∃ dv, e = .returned dv ∧ Below w.heap.size w w' ∧ ∀ w0 va xs, Byt w0 va xs → 0 < xs.length → xs.length ≤ 1048576 → Deed w0 dv va (fun o => match o with | none => List.replicate xs.length 255 | some (_, m) => ofb xs.length (erased xs m))) := erasing_any
  have CL : Hid ((cut (P * S) (xi X) b).length = P * S) := cut_len2 h b (P * S) HF.out
  have RW : Hid (∀ o : Option (Bool × List Int), ((fun o : Option (Bool × List Int) => match o with | none => List.replicate (P * S) 255 | some (_, m) => ofb (P * S) (erased (cut (P * S) (xi X) b) m)) o).length = P * S ∧ AllB ((fun o : Option (Bool × List Int) => match o with | none => List.replicate (P * S) 255 | some (_, m) => ofb (P * S) (erased (cut (P * S) (xi X) b) m)) o)) := fun o => by
    match o with
    | none => exact ⟨by simp, allB_replicate _ _ (by omega)⟩
    | some (_, m) => exact ⟨ofb_len _ _, ofb_all _ _⟩
  have SP : Hid (∀ w0 deed, Lay M w0 c r d q pv tv g N P S pl (mkX (xi X) (xp X) (at1 (xe X) b (xe X b + 1)) (xs X) (xo X) (xt X)) → Mlt M w0 → Deed w0 deed (.slice (some ⟨d, b * (P * S), none⟩) (P * S) (N * (P * S) - b * (P * S))) (fun o => match o with | none => List.replicate (P * S) 255 | some (_, m) => ofb (P * S) (erased (cut (P * S) (xi X) b) m)) → Calls Tryz.prog 93 #[.pointer (some ⟨c, 0, none⟩), .agg #[.int .i64 2, .int .i64 (b : Int), .int .i64 0, .slice none 0 0, .int .i64 0], (.slice (some ⟨d, b * (P * S), none⟩) (P * S) (N * (P * S) - b * (P * S))), deed] w0 (Perf M w0 c r d q pv g N P S pl (mkX (xi X) (xp X) (at1 (xe X) b (xe X b + 1)) (xs X) (xo X) (xt X)) (b * (P * S)) ((fun o : Option (Bool × List Int) => match o with | none => List.replicate (P * S) 255 | some (_, m) => ofb (P * S) (erased (cut (P * S) (xi X) b) m)) none) (opn 2 b 0 [] 0) none)) := fun w0 deed hl hm hd => by
    have := perform_any hl hm ho (opn 2 b 0 [] 0) rfl (.slice none 0 0) (b * (P * S)) (P * S) (N * (P * S) - b * (P * S)) deed (fun o => match o with | none => List.replicate (P * S) 255 | some (_, m) => ofb (P * S) (erased (cut (P * S) (xi X) b) m)) hd (Byt.nil _) HF.out RW.out htr
    have e : pl (xt (mkX (xi X) (xp X) (at1 (xe X) b (xe X b + 1)) (xs X) (xo X) (xt X))).length = none := hpl
    rw [e] at this
    exact this
  obtain ⟨s0, s1, s2⟩ := h.st hb
  have qw : IntKind.i64.wrap (xe X b + 1) = xe X b + 1 := by rw [IntKind.wrap_i64]; omega
  have i0 : (0 : Int) ≤ (b : Int) := by omega
  have i1 : (b : Int) < (N : Int) := by omega
  have HSC : Hid (∀ w0, Lay M w0 c r d q pv tv g N P S pl (mkX (xi X) (xp X) (at1 (xe X) b (xe X b + 1)) (xs X) (xo X) (xt X)) → Byt w0 (.slice (some ⟨d, b * (P * S), none⟩) (P * S) (N * (P * S) - b * (P * S))) (cut (P * S) (xi X) b)) := fun w0 hl => hl.part b (P * S) HF.out _ (by have := HF.out; omega) (by have := HBY; omega)
  obtain ⟨rs, hrs⟩ : ∃ rs, rs = ((fun o : Option (Bool × List Int) => match o with | none => List.replicate (P * S) 255 | some (_, m) => ofb (P * S) (erased (cut (P * S) (xi X) b) m)) none) := ⟨_, rfl⟩
  rw [← hrs] at SP ⊢
  clear h hM ho hb hpl he hrs
  have t0 := tR
  go_enter Tryz.func95, Tryz.ntmps95
  go_wp2_with (first
    | (have q_6 := t6; refine store_law1 _ r (b * 3 + 2) (.bool false) rfl rfl ((HL.out.2.2.2.2.2.1 b HBN.out).2 2 (by omega)).1 ((HL.out.2.2.2.2.2.1 b HBN.out).2 2 (by omega)).2 one_bool.2 rfl rfl ?_; intro w9 e9
       have HL : Hid (Lay M' w9 c r d q pv tv' g N P S pl (mkX (laid (xi X) (b * (P * S)) rs) (at1 (xp X) b (List.replicate P 0)) (at1 (xe X) b (xe X b + 1)) (at1 (xs X) b false) (!crs none) (xt X ++ [opn 2 b 0 [] (ans none)]))) := by
         have := HL.out.sts b HBN.out (at1 (xe X) b (xe X b + 1) b) false 2 (.bool false) (by omega) rfl
         rw [← e9.out] at this
         have e1 : at1 (at1 (xe X) b (xe X b + 1)) b (at1 (xe X) b (xe X b + 1) b) = at1 (xe X) b (xe X b + 1) := at1_id _ b
         exact e1 ▸ this
       have F9 : Hid (Frm M' w8 w9) := by rw [e9.out]; exact Frm.set HL.out.2.1.1.2.1 _ _
       clear e9 t6)
    | (have q_5 := t5; refine clear_lawI _ (q b) P P (xp X b) rfl HQ.out.1 HQ.out.2 (by have := HL.out.num; omega) ?_; intro w8 e8
       have g8 : w7.grownBy w8 (some (q b)) := by rw [e8.out]; exact keep_cells _ _ _ _
       have HL : Hid (Lay M' w8 c r d q pv tv' g N P S pl (mkX (laid (xi X) (b * (P * S)) rs) (at1 (xp X) b (List.replicate P 0)) (at1 (xe X) b (xe X b + 1)) (xs X) (!crs none) (xt X ++ [opn 2 b 0 [] (ans none)]))) := by
         refine HL.out.prs b HBN.out g8 _ ?_ (by simp)
         rw [e8.out]
         exact Ar.whole (by rw [List.length_replicate]; have := HQ.out.1.2; rw [HQ.out.2] at this; exact this)
       have F8 : Hid (Frm M' w7 w8) := Frm.grown g8 (fun k e => by injection e with e; subst e; exact HL.out.2.1.1.2.2.2 b HBN.out)
       have s2 := (HL.out.st HBN.out).2.2
       clear e8 g8 t5; have t6 := tR)
    | (have q_4 := t4; go_at_call 93; refine (SP.out _ _ HL.out HMw.out HDE.out).mono ?_; rintro e w7 ⟨M', tv', rfl, L7, S7, F7, T7⟩
       have HL : Hid (Lay M' w7 c r d q pv tv' g N P S pl (mkX (laid (xi X) (b * (P * S)) rs) (xp X) (at1 (xe X) b (xe X b + 1)) (xs X) (!crs none) (xt X ++ [opn 2 b 0 [] (ans none)]))) := L7
       have FF7 : Hid ((∀ k, k < w.heap.size → M' k = M k) ∧ Frm M w w7 ∧ Mlt M' w7) := ⟨fun k hk => S7 k (Nat.lt_of_lt_of_le hk FF.out.size), FF.out.tr F7, T7⟩
       have s0 := (HL.out.st HBN.out).1
       have HQ : Hid (Ar w7 (q b) 0 .i64 (xp X b) ∧ (xp X b).length = P) := HL.out.2.2.2.2.2.2.1 b HBN.out
       clear L7 S7 F7 T7 t4; have t5 := tR)
    | (have q_3 := t3; go_at_call 124; refine (SD.out _).mono ?_; rintro e w6 ⟨deed, rfl, B6, z6⟩
       have HL : Hid (Lay M w6 c r d q pv tv g N P S pl (mkX (xi X) (xp X) (at1 (xe X) b (xe X b + 1)) (xs X) (xo X) (xt X))) := HL.out.below B6
       have FF : Hid (Frm M w w6) := FF.out.tr (Frm.of_below B6)
       have HMw : Hid (Mlt M w6) := fun k hk => Nat.lt_of_lt_of_le (HM.out k hk) FF.out.size
       have HDE : Hid (Deed w6 deed (.slice (some ⟨d, b * (P * S), none⟩) (P * S) (N * (P * S) - b * (P * S))) (fun o => match o with | none => List.replicate (P * S) 255 | some (_, m) => ofb (P * S) (erased (cut (P * S) (xi X) b) m))) := by
         have := z6 w6 _ _ (HSC.out w6 HL.out) (by rw [CL.out]; omega) (by rw [CL.out]; omega)
         rw [CL.out] at this
         exact this
       clear B6 z6 t3; have t4 := tR)
    | (have q_2 := t2; refine store_law1 _ r (b * 3 + 1) (.int .i64 (xe X b + 1)) rfl rfl ((HL.out.2.2.2.2.2.1 b HBN.out).2 1 (by omega)).1 ((HL.out.2.2.2.2.2.1 b HBN.out).2 1 (by omega)).2 one_int.2 rfl rfl ?_; intro w5 e5
       have HL5 := HL.out.sts b HBN.out (xe X b + 1) (xs X b) 1 (.int .i64 (xe X b + 1)) (by omega) rfl
       rw [← e5.out, at1_id (xs X) b] at HL5
       have HL : Hid (Lay M w5 c r d q pv tv g N P S pl (mkX (xi X) (xp X) (at1 (xe X) b (xe X b + 1)) (xs X) (xo X) (xt X))) := HL5
       have FF : Hid (Frm M w w5) := FF.out.tr (by rw [e5.out]; exact Frm.set HL.out.2.1.1.2.1 _ _)
       clear e5 HL5 t2; have t3 := tR)
    | (have q_1 := t0; go_at_call 123; refine SB.out.mono ?_; rintro e w3 ⟨rfl, B3⟩
       have HL : Hid (Lay M w3 c r d q pv tv g N P S pl X) := HL.out.below B3
       have f9 := HL.out.cells.2.2.2.1
       have s1 := (HL.out.st HBN.out).2.1
       have FF : Hid (Frm M w w3) := Frm.of_below B3
       clear B3 t0; have t2 := tR))
  go_ret
  refine ⟨M', tv', rfl, HL.out, FF7.out.1, ?_, ?_⟩
  · have f1 : Frm M' w7 w9 := F8.out.tr F9.out
    exact FF7.out.2.1.trans f1 (fun k hk h => (FF7.out.1 k hk).trans h)
  · exact fun k hk => Nat.lt_of_lt_of_le (FF7.out.2.2 k hk) (F8.out.tr F9.out).size
theorem erase_some (h : Lay M w c r d q pv tv g N P S pl X) (hM : Mlt M w) (ho : xo X = true) (b : Nat) (hb : b < N) (cr : Bool) (mm : List Int) (hpl : pl (xt X).length = (some (cr, mm))) (he : 0 ≤ xe X b ∧ xe X b ≤ 1000000) (htr : (xt X).length ≤ 1000000) :
    Calls Tryz.prog 95 #[.pointer (some ⟨c, 0, none⟩), .int .i64 (b : Int)] w (Done M w c r d q pv g N P S pl (ans (some (cr, mm))) (mkX (laid (xi X) (b * (P * S)) ((fun o : Option (Bool × List Int) => match o with | none => List.replicate (P * S) 255 | some (_, m) => ofb (P * S) (erased (cut (P * S) (xi X) b) m)) (some (cr, mm)))) (xp X) (at1 (xe X) b (xe X b + 1)) (xs X) (!crs (some (cr, mm))) (xt X ++ [opn 2 b 0 [] (ans (some (cr, mm)))]))) := by
  have SB : Hid (Calls Tryz.prog 123 #[.pointer (some ⟨c, 0, none⟩), .int .i64 (b : Int)] w fun e w' => e = .returned (.tuple #[(.slice (some ⟨d, b * (P * S), none⟩) (P * S) (N * (P * S) - b * (P * S))), .int .i64 0]) ∧ Below w.heap.size w w') := blockCells_yes h ho b hb
  have HL : Hid (Lay M w c r d q pv tv g N P S pl X) := h
  have HM : Hid (Mlt M w) := hM
  have HBN : Hid (b < N) := hb
  have HF : Hid (b * (P * S) + P * S ≤ N * (P * S)) := by
    have := Nat.mul_le_mul_right (P * S) (show b + 1 ≤ N by omega)
    rw [Nat.succ_mul] at this
    exact this
  have HBY := h.bytes
  have SD : Hid (∀ w, Calls Tryz.prog 124 #[] w fun e w' => ∃ dv, e = .returned dv ∧ Below w.heap.size w w' ∧ ∀ w0 va xs, Byt w0 va xs → 0 < xs.length → xs.length ≤ 1048576 → Deed w0 dv va (fun o => match o with | none => List.replicate xs.length 255 | some (_, m) => ofb xs.length (erased xs m))) := erasing_any
  have CL : Hid ((cut (P * S) (xi X) b).length = P * S) := cut_len2 h b (P * S) HF.out
  have RW : Hid (∀ o : Option (Bool × List Int), ((fun o : Option (Bool × List Int) => match o with | none => List.replicate (P * S) 255 | some (_, m) => ofb (P * S) (erased (cut (P * S) (xi X) b) m)) o).length = P * S ∧ AllB ((fun o : Option (Bool × List Int) => match o with | none => List.replicate (P * S) 255 | some (_, m) => ofb (P * S) (erased (cut (P * S) (xi X) b) m)) o)) := fun o => by
    match o with
    | none => exact ⟨by simp, allB_replicate _ _ (by omega)⟩
    | some (_, m) => exact ⟨ofb_len _ _, ofb_all _ _⟩
  have SP : Hid (∀ w0 deed, Lay M w0 c r d q pv tv g N P S pl (mkX (xi X) (xp X) (at1 (xe X) b (xe X b + 1)) (xs X) (xo X) (xt X)) → Mlt M w0 → Deed w0 deed (.slice (some ⟨d, b * (P * S), none⟩) (P * S) (N * (P * S) - b * (P * S))) (fun o => match o with | none => List.replicate (P * S) 255 | some (_, m) => ofb (P * S) (erased (cut (P * S) (xi X) b) m)) → Calls Tryz.prog 93 #[.pointer (some ⟨c, 0, none⟩), .agg #[.int .i64 2, .int .i64 (b : Int), .int .i64 0, .slice none 0 0, .int .i64 0], (.slice (some ⟨d, b * (P * S), none⟩) (P * S) (N * (P * S) - b * (P * S))), deed] w0 (Perf M w0 c r d q pv g N P S pl (mkX (xi X) (xp X) (at1 (xe X) b (xe X b + 1)) (xs X) (xo X) (xt X)) (b * (P * S)) ((fun o : Option (Bool × List Int) => match o with | none => List.replicate (P * S) 255 | some (_, m) => ofb (P * S) (erased (cut (P * S) (xi X) b) m)) (some (cr, mm))) (opn 2 b 0 [] 0) (some (cr, mm)))) := fun w0 deed hl hm hd => by
    have := perform_any hl hm ho (opn 2 b 0 [] 0) rfl (.slice none 0 0) (b * (P * S)) (P * S) (N * (P * S) - b * (P * S)) deed (fun o => match o with | none => List.replicate (P * S) 255 | some (_, m) => ofb (P * S) (erased (cut (P * S) (xi X) b) m)) hd (Byt.nil _) HF.out RW.out htr
    have e : pl (xt (mkX (xi X) (xp X) (at1 (xe X) b (xe X b + 1)) (xs X) (xo X) (xt X))).length = (some (cr, mm)) := hpl
    rw [e] at this
    exact this
  obtain ⟨s0, s1, s2⟩ := h.st hb
  have qw : IntKind.i64.wrap (xe X b + 1) = xe X b + 1 := by rw [IntKind.wrap_i64]; omega
  have i0 : (0 : Int) ≤ (b : Int) := by omega
  have i1 : (b : Int) < (N : Int) := by omega
  have HSC : Hid (∀ w0, Lay M w0 c r d q pv tv g N P S pl (mkX (xi X) (xp X) (at1 (xe X) b (xe X b + 1)) (xs X) (xo X) (xt X)) → Byt w0 (.slice (some ⟨d, b * (P * S), none⟩) (P * S) (N * (P * S) - b * (P * S))) (cut (P * S) (xi X) b)) := fun w0 hl => hl.part b (P * S) HF.out _ (by have := HF.out; omega) (by have := HBY; omega)
  obtain ⟨rs, hrs⟩ : ∃ rs, rs = ((fun o : Option (Bool × List Int) => match o with | none => List.replicate (P * S) 255 | some (_, m) => ofb (P * S) (erased (cut (P * S) (xi X) b) m)) (some (cr, mm))) := ⟨_, rfl⟩
  rw [← hrs] at SP ⊢
  clear h hM ho hb hpl he hrs
  have hane : (ans (some (cr, mm)) == 0) = false := by cases cr <;> rfl
  have t0 := tR
  go_enter Tryz.func95, Tryz.ntmps95
  go_wp2_with (first
    | (have q_4 := t4; go_at_call 93; refine (SP.out _ _ HL.out HMw.out HDE.out).mono ?_; rintro e w7 ⟨M', tv', rfl, L7, S7, F7, T7⟩
       have HL : Hid (Lay M' w7 c r d q pv tv' g N P S pl (mkX (laid (xi X) (b * (P * S)) rs) (xp X) (at1 (xe X) b (xe X b + 1)) (xs X) (!crs (some (cr, mm))) (xt X ++ [opn 2 b 0 [] (ans (some (cr, mm)))]))) := L7
       have FF7 : Hid ((∀ k, k < w.heap.size → M' k = M k) ∧ Frm M w w7 ∧ Mlt M' w7) := ⟨fun k hk => S7 k (Nat.lt_of_lt_of_le hk FF.out.size), FF.out.tr F7, T7⟩
       have s0 := (HL.out.st HBN.out).1
       have HQ : Hid (Ar w7 (q b) 0 .i64 (xp X b) ∧ (xp X b).length = P) := HL.out.2.2.2.2.2.2.1 b HBN.out
       clear L7 S7 F7 T7 t4; have t5 := tR)
    | (have q_3 := t3; go_at_call 124; refine (SD.out _).mono ?_; rintro e w6 ⟨deed, rfl, B6, z6⟩
       have HL : Hid (Lay M w6 c r d q pv tv g N P S pl (mkX (xi X) (xp X) (at1 (xe X) b (xe X b + 1)) (xs X) (xo X) (xt X))) := HL.out.below B6
       have FF : Hid (Frm M w w6) := FF.out.tr (Frm.of_below B6)
       have HMw : Hid (Mlt M w6) := fun k hk => Nat.lt_of_lt_of_le (HM.out k hk) FF.out.size
       have HDE : Hid (Deed w6 deed (.slice (some ⟨d, b * (P * S), none⟩) (P * S) (N * (P * S) - b * (P * S))) (fun o => match o with | none => List.replicate (P * S) 255 | some (_, m) => ofb (P * S) (erased (cut (P * S) (xi X) b) m))) := by
         have := z6 w6 _ _ (HSC.out w6 HL.out) (by rw [CL.out]; omega) (by rw [CL.out]; omega)
         rw [CL.out] at this
         exact this
       clear B6 z6 t3; have t4 := tR)
    | (have q_2 := t2; refine store_law1 _ r (b * 3 + 1) (.int .i64 (xe X b + 1)) rfl rfl ((HL.out.2.2.2.2.2.1 b HBN.out).2 1 (by omega)).1 ((HL.out.2.2.2.2.2.1 b HBN.out).2 1 (by omega)).2 one_int.2 rfl rfl ?_; intro w5 e5
       have HL5 := HL.out.sts b HBN.out (xe X b + 1) (xs X b) 1 (.int .i64 (xe X b + 1)) (by omega) rfl
       rw [← e5.out, at1_id (xs X) b] at HL5
       have HL : Hid (Lay M w5 c r d q pv tv g N P S pl (mkX (xi X) (xp X) (at1 (xe X) b (xe X b + 1)) (xs X) (xo X) (xt X))) := HL5
       have FF : Hid (Frm M w w5) := FF.out.tr (by rw [e5.out]; exact Frm.set HL.out.2.1.1.2.1 _ _)
       clear e5 HL5 t2; have t3 := tR)
    | (have q_1 := t0; go_at_call 123; refine SB.out.mono ?_; rintro e w3 ⟨rfl, B3⟩
       have HL : Hid (Lay M w3 c r d q pv tv g N P S pl X) := HL.out.below B3
       have f9 := HL.out.cells.2.2.2.1
       have s1 := (HL.out.st HBN.out).2.1
       have FF : Hid (Frm M w w3) := Frm.of_below B3
       clear B3 t0; have t2 := tR))
  go_ret
  exact ⟨M', tv', rfl, HL.out, FF7.out⟩
theorem scrub_any (h : Lay M w c r d q pv tv g N P S pl X) (hM : Mlt M w) (ho : xo X = true) (b : Nat) (hb : b < N) (htr : (xt X).length ≤ 1000000) :
    Calls Tryz.prog 96 #[.pointer (some ⟨c, 0, none⟩), .int .i64 (b : Int)] w (Done M w c r d q pv g N P S pl (ans (pl (xt X).length)) (mkX (laid (xi X) (b * (P * S)) ((fun o : Option (Bool × List Int) => match o with | none => List.replicate (P * S) 0 | some (_, m) => ofb (P * S) (torn (cut (P * S) (xi X) b) (List.replicate (P * S) 0) m)) (pl (xt X).length))) (xp X) (xe X) (at1 (xs X) b true) (!crs (pl (xt X).length)) (xt X ++ [opn 3 b 0 [] (ans (pl (xt X).length))]))) := by
  have SB : Hid (Calls Tryz.prog 123 #[.pointer (some ⟨c, 0, none⟩), .int .i64 (b : Int)] w fun e w' => e = .returned (.tuple #[(.slice (some ⟨d, b * (P * S), none⟩) (P * S) (N * (P * S) - b * (P * S))), .int .i64 0]) ∧ Below w.heap.size w w') := blockCells_yes h ho b hb
  have HL : Hid (Lay M w c r d q pv tv g N P S pl X) := h
  have HM : Hid (Mlt M w) := hM
  have HBN : Hid (b < N) := hb
  have HF : Hid (b * (P * S) + P * S ≤ N * (P * S)) := by
    have := Nat.mul_le_mul_right (P * S) (show b + 1 ≤ N by omega)
    rw [Nat.succ_mul] at this
    exact this
  have HBY := h.bytes
  have SD : Hid (∀ w, Calls Tryz.prog 125 #[] w fun e w' => ∃ dv, e = .returned dv ∧ Below w.heap.size w w' ∧ ∀ w0 va xs, Byt w0 va xs → 0 < xs.length → xs.length ≤ 1048576 → Deed w0 dv va (fun o => match o with | none => List.replicate xs.length 0 | some (_, m) => ofb xs.length (torn xs (List.replicate xs.length 0) m))) := scrubbing_any
  have CL : Hid ((cut (P * S) (xi X) b).length = P * S) := cut_len2 h b (P * S) HF.out
  have RW : Hid (∀ o : Option (Bool × List Int), ((fun o : Option (Bool × List Int) => match o with | none => List.replicate (P * S) 0 | some (_, m) => ofb (P * S) (torn (cut (P * S) (xi X) b) (List.replicate (P * S) 0) m)) o).length = P * S ∧ AllB ((fun o : Option (Bool × List Int) => match o with | none => List.replicate (P * S) 0 | some (_, m) => ofb (P * S) (torn (cut (P * S) (xi X) b) (List.replicate (P * S) 0) m)) o)) := fun o => by
    match o with
    | none => exact ⟨by simp, allB_replicate _ _ (by omega)⟩
    | some (_, m) => exact ⟨ofb_len _ _, ofb_all _ _⟩
  have SP : Hid (∀ w0 deed, Lay M w0 c r d q pv tv g N P S pl (mkX (xi X) (xp X) (xe X) (at1 (xs X) b true) (xo X) (xt X)) → Mlt M w0 → Deed w0 deed (.slice (some ⟨d, b * (P * S), none⟩) (P * S) (N * (P * S) - b * (P * S))) (fun o => match o with | none => List.replicate (P * S) 0 | some (_, m) => ofb (P * S) (torn (cut (P * S) (xi X) b) (List.replicate (P * S) 0) m)) → Calls Tryz.prog 93 #[.pointer (some ⟨c, 0, none⟩), .agg #[.int .i64 3, .int .i64 (b : Int), .int .i64 0, .slice none 0 0, .int .i64 0], (.slice (some ⟨d, b * (P * S), none⟩) (P * S) (N * (P * S) - b * (P * S))), deed] w0 (Perf M w0 c r d q pv g N P S pl (mkX (xi X) (xp X) (xe X) (at1 (xs X) b true) (xo X) (xt X)) (b * (P * S)) ((fun o : Option (Bool × List Int) => match o with | none => List.replicate (P * S) 0 | some (_, m) => ofb (P * S) (torn (cut (P * S) (xi X) b) (List.replicate (P * S) 0) m)) (pl (xt X).length)) (opn 3 b 0 [] 0) (pl (xt X).length))) := fun w0 deed hl hm hd => by
    have := perform_any hl hm ho (opn 3 b 0 [] 0) rfl (.slice none 0 0) (b * (P * S)) (P * S) (N * (P * S) - b * (P * S)) deed (fun o => match o with | none => List.replicate (P * S) 0 | some (_, m) => ofb (P * S) (torn (cut (P * S) (xi X) b) (List.replicate (P * S) 0) m)) hd (Byt.nil _) HF.out RW.out htr
    skip
    skip
    exact this
  obtain ⟨s0, s1, s2⟩ := h.st hb
  skip
  have i0 : (0 : Int) ≤ (b : Int) := by omega
  have i1 : (b : Int) < (N : Int) := by omega
  have HSC : Hid (∀ w0, Lay M w0 c r d q pv tv g N P S pl (mkX (xi X) (xp X) (xe X) (at1 (xs X) b true) (xo X) (xt X)) → Byt w0 (.slice (some ⟨d, b * (P * S), none⟩) (P * S) (N * (P * S) - b * (P * S))) (cut (P * S) (xi X) b)) := fun w0 hl => hl.part b (P * S) HF.out _ (by have := HF.out; omega) (by have := HBY; omega)
  obtain ⟨rs, hrs⟩ : ∃ rs, rs = ((fun o : Option (Bool × List Int) => match o with | none => List.replicate (P * S) 0 | some (_, m) => ofb (P * S) (torn (cut (P * S) (xi X) b) (List.replicate (P * S) 0) m)) (pl (xt X).length)) := ⟨_, rfl⟩
  rw [← hrs] at SP ⊢
  clear h hM ho hb hrs
  have t0 := tR
  go_enter Tryz.func96, Tryz.ntmps96
  go_wp2_with (first
    | (have q_4 := t4; go_at_call 93; refine (SP.out _ _ HL.out HMw.out HDE.out).mono ?_; rintro e w7 ⟨M', tv', rfl, L7, S7, F7, T7⟩
       have HL : Hid (Lay M' w7 c r d q pv tv' g N P S pl (mkX (laid (xi X) (b * (P * S)) rs) (xp X) (xe X) (at1 (xs X) b true) (!crs (pl (xt X).length)) (xt X ++ [opn 3 b 0 [] (ans (pl (xt X).length))]))) := L7
       have FF7 : Hid ((∀ k, k < w.heap.size → M' k = M k) ∧ Frm M w w7 ∧ Mlt M' w7) := ⟨fun k hk => S7 k (Nat.lt_of_lt_of_le hk FF.out.size), FF.out.tr F7, T7⟩
       have s0 := (HL.out.st HBN.out).1
       have HQ : Hid (Ar w7 (q b) 0 .i64 (xp X b) ∧ (xp X b).length = P) := HL.out.2.2.2.2.2.2.1 b HBN.out
       clear L7 S7 F7 T7 t4; have t5 := tR)
    | (have q_3 := t3; go_at_call 125; refine (SD.out _).mono ?_; rintro e w6 ⟨deed, rfl, B6, z6⟩
       have HL : Hid (Lay M w6 c r d q pv tv g N P S pl (mkX (xi X) (xp X) (xe X) (at1 (xs X) b true) (xo X) (xt X))) := HL.out.below B6
       have FF : Hid (Frm M w w6) := FF.out.tr (Frm.of_below B6)
       have HMw : Hid (Mlt M w6) := fun k hk => Nat.lt_of_lt_of_le (HM.out k hk) FF.out.size
       have HDE : Hid (Deed w6 deed (.slice (some ⟨d, b * (P * S), none⟩) (P * S) (N * (P * S) - b * (P * S))) (fun o => match o with | none => List.replicate (P * S) 0 | some (_, m) => ofb (P * S) (torn (cut (P * S) (xi X) b) (List.replicate (P * S) 0) m))) := by
         have := z6 w6 _ _ (HSC.out w6 HL.out) (by rw [CL.out]; omega) (by rw [CL.out]; omega)
         rw [CL.out] at this
         exact this
       clear B6 z6 t3; have t4 := tR)
    | (have q_2 := t2; refine store_law1 _ r (b * 3 + 2) (.bool true) rfl rfl ((HL.out.2.2.2.2.2.1 b HBN.out).2 2 (by omega)).1 ((HL.out.2.2.2.2.2.1 b HBN.out).2 2 (by omega)).2 one_bool.2 rfl rfl ?_; intro w5 e5
       have HL5 := HL.out.sts b HBN.out (xe X b) true 2 (.bool true) (by omega) rfl
       rw [← e5.out, at1_id (xe X) b] at HL5
       have HL : Hid (Lay M w5 c r d q pv tv g N P S pl (mkX (xi X) (xp X) (xe X) (at1 (xs X) b true) (xo X) (xt X))) := HL5
       have FF : Hid (Frm M w w5) := FF.out.tr (by rw [e5.out]; exact Frm.set HL.out.2.1.1.2.1 _ _)
       clear e5 HL5 t2; have t3 := tR)
    | (have q_1 := t0; go_at_call 123; refine SB.out.mono ?_; rintro e w3 ⟨rfl, B3⟩
       have HL : Hid (Lay M w3 c r d q pv tv g N P S pl X) := HL.out.below B3
       have f9 := HL.out.cells.2.2.2.1
       have s1 := (HL.out.st HBN.out).2.1
       have FF : Hid (Frm M w w3) := Frm.of_below B3
       clear B3 t0; have t2 := tR))
  go_ret
  exact ⟨M', tv', rfl, HL.out, FF7.out⟩
end
end Go.Proofs.YtakibiigcdgohaaGreatDoor.na
namespace Go.Proofs.YtakibiigcdgohaaGreatDoor.na
open Go.RowKit Go.Proofs.YtakibiigcdgohaaGreatDoor.fa
set_option maxRecDepth 20000
section
variable {M : Nat → Bool} {w : World} {c r d : Nat} {q : Nat → Nat} {pv tv : Value} {g : List Int} {N P S : Nat} {pl : Pln} {s : St} {l : List Opn}
theorem raw_s (N P : Nat) (s : St) (l : List Opn) : xs (raw N P s l) = scr s := rfl
theorem raw_e (N P : Nat) (s : St) (l : List Opn) : xe (raw N P s l) = ers s := rfl
theorem pprog_no (h : Lay M w c r d q pv tv g N P S pl (raw N P s l)) (hLs : Lsp N P s) (b p : Int) (vb : Value) (ys : List Int) (hy : Byt w vb ys) (x : Int) (hx : pno N P S s b p ys = some x) :
    Calls Tryz.prog 71 #[.pointer (some ⟨c, 0, none⟩), .agg (ints .i64 [b, p]), vb] w fun e w' => e = .returned (.int .i64 x) ∧ Below w.heap.size w w' := by
  unfold pno at hx
  cases ho : off s with
  | true =>
    rw [if_pos ho] at hx
    cases hx
    exact program_off h [b, p] vb ys hy (by rw [raw_o, ho]; rfl)
  | false =>
    have hon : xo (raw N P s l) = true := by rw [raw_o, ho]; rfl
    rw [if_neg (by rw [ho]; simp)] at hx
    by_cases hg : 0 ≤ b ∧ b < N ∧ 0 ≤ p ∧ p < P
    · obtain ⟨q1, q2, q3, q4⟩ := hg
      obtain ⟨b', rfl⟩ : ∃ b' : Nat, b = b' := ⟨b.toNat, by omega⟩
      obtain ⟨p', rfl⟩ : ∃ p' : Nat, p = p' := ⟨p.toNat, by omega⟩
      have hb' : b' < N := by omega
      have hp' : p' < P := by omega
      by_cases hl : ys.length = S
      · rw [if_neg (by simp; omega)] at hx
        simp only [Int.toNat_natCast] at hx
        have hx0 : x ≠ 0 := by
          intro z
          subst z
          split at hx
          · cases hx
          · split at hx <;> cases hx
        refine program_ref h [(b' : Int), (p' : Int)] rfl vb ys hy hon b' p' rfl rfl hb' hp' hl x hx0 (fun z => ?_) (fun z1 z2 z3 => ?_) (fun z1 z2 z3 => ?_)
        · rw [raw_s, raw_p N P s l b' p' hp'] at z
          rw [if_pos z] at hx
          cases hx; rfl
        · rw [raw_s] at z1
          rw [raw_p N P s l b' p' hp'] at z2
          rw [bhd_lsp hLs l b' p' hb'] at z3
          rw [if_neg (by rw [z1, z2]; simp), if_pos ⟨z2, z3⟩] at hx
          cases hx; rfl
        · rw [raw_s] at z1
          rw [raw_p N P s l b' p' hp'] at z2 z3
          rw [bhd_lsp hLs l b' p' hb'] at z3
          rw [if_neg (by rw [z1]; simp; omega), if_neg z3] at hx
          cases hx
      · rw [if_pos (by simp; omega)] at hx
        cases hx
        exact program_len h [(b' : Int), (p' : Int)] rfl vb ys hy hon b' p' rfl rfl hb' hp' hl
    · rw [if_pos (by intro z; exact hg ⟨z.1, z.2.1, z.2.2.1, z.2.2.2.1⟩)] at hx
      cases hx
      exact program_no h [b, p] rfl vb ys hy hon hg
theorem pprog_do (h : Lay M w c r d q pv tv g N P S pl (raw N P s l)) (hM : Mlt M w) (hW : Wf N P S s) (hLs : Lsp N P s) (hll : l.length = ops s) (hn : ops s ≤ 1000000) (b p : Nat) (vb : Value) (ys : List Int) (hy : Byt (hid M w) vb ys) (hx : pno N P S s b p ys = none) :
    Calls Tryz.prog 71 #[.pointer (some ⟨c, 0, none⟩), .agg (ints .i64 [(b : Int), (p : Int)]), vb] w (Done M w c r d q pv g N P S pl (ans (pl (ops s))) (raw N P (pdo S pl s b p ys) (l ++ [opn 1 b p ys (ans (pl (ops s)))]))) := by
  obtain ⟨q0, ⟨q1, q2, q3, q4, q5⟩, q6, q7, q8⟩ := pno_none hx
  simp only [Int.toNat_natCast] at q6 q7 q8
  have hb : b < N := by omega
  have hp : p < P := by omega
  have hu := ((hW b hb).1 p hp).2.2.1
  have z := program_do h hM vb ys hy (by rw [raw_o, q0]; rfl) b p hb hp q5 q6 (by rw [raw_p N P s l b p hp]; omega) (by rw [raw_p N P s l b p hp, bhd_lsp hLs l b p hb]; exact q8) (by rw [raw_t, hll]; exact hn)
  rw [raw_pdo hW pl b p hb hp ys l _ hll, raw_t, hll] at z
  exact z
theorem pers_no (h : Lay M w c r d q pv tv g N P S pl (raw N P s l)) (b : Int) (x : Int) (hx : eno N s b = some x) :
    Calls Tryz.prog 95 #[.pointer (some ⟨c, 0, none⟩), .int .i64 b] w fun e w' => e = .returned (.int .i64 x) ∧ Below w.heap.size w w' := by
  unfold eno at hx
  cases ho : off s with
  | true =>
    rw [if_pos ho] at hx
    cases hx
    exact (erase_off h (by rw [raw_o, ho]; rfl) b).mono fun e w' ⟨h1, h2⟩ => ⟨h1, by rw [h2]; exact Below.refl _ _⟩
  | false =>
    rw [if_neg (by rw [ho]; simp)] at hx
    by_cases hg : 0 ≤ b ∧ b < N
    · rw [if_neg (by simpa using hg)] at hx; cases hx
    · rw [if_pos hg] at hx
      cases hx
      exact (erase_no h (by rw [raw_o, ho]; rfl) b hg).mono fun e w' ⟨h1, h2⟩ => ⟨h1, by rw [h2]; exact Below.refl _ _⟩
theorem pers_do (h : Lay M w c r d q pv tv g N P S pl (raw N P s l)) (hM : Mlt M w) (hW : Wf N P S s) (hll : l.length = ops s) (hn : ops s ≤ 1000000) (b : Nat) (hx : eno N s b = none) :
    Calls Tryz.prog 95 #[.pointer (some ⟨c, 0, none⟩), .int .i64 (b : Int)] w (Done M w c r d q pv g N P S pl (ans (pl (ops s))) (raw N P (edo P S pl s b) (l ++ [opn 2 b 0 [] (ans (pl (ops s)))]))) := by
  obtain ⟨q0, q1, q2⟩ := eno_none hx
  have hb : b < N := by omega
  have hwf := hW b hb
  have hon : xo (raw N P s l) = true := by rw [raw_o, q0]; rfl
  have he : 0 ≤ xe (raw N P s l) b ∧ xe (raw N P s l) b ≤ 1000000 := by
    rw [raw_e]
    have h1 := hwf.2.2.2.1
    have h2 := hwf.2.2.2.2
    omega
  have ht : (xt (raw N P s l)).length ≤ 1000000 := by rw [raw_t, hll]; exact hn
  match hpl : pl (ops s) with
  | none =>
    have z := erase_none h hM hon b hb (by rw [raw_t, hll]; exact hpl) he ht
    rw [raw_edo_none hW pl b hb l _ hpl, raw_t] at z
    exact z
  | some (cr, mm) =>
    have z := erase_some h hM hon b hb cr mm (by rw [raw_t, hll]; exact hpl) he ht
    rw [raw_edo_some hW pl b hb l _ cr mm hpl, raw_t] at z
    exact z
theorem pscr_do (h : Lay M w c r d q pv tv g N P S pl (raw N P s l)) (hM : Mlt M w) (hW : Wf N P S s) (hll : l.length = ops s) (hn : ops s ≤ 1000000) (b : Nat) (hx : eno N s b = none) :
    Calls Tryz.prog 96 #[.pointer (some ⟨c, 0, none⟩), .int .i64 (b : Int)] w (Done M w c r d q pv g N P S pl (ans (pl (ops s))) (raw N P (sdo P S pl s b) (l ++ [opn 3 b 0 [] (ans (pl (ops s)))]))) := by
  obtain ⟨q0, q1, q2⟩ := eno_none hx
  have hb : b < N := by omega
  have hon : xo (raw N P s l) = true := by rw [raw_o, q0]; rfl
  have ht : (xt (raw N P s l)).length ≤ 1000000 := by rw [raw_t, hll]; exact hn
  have z := scrub_any h hM hon b hb ht
  rw [← hll, ← raw_sdo hW pl b hb l _ hll]
  exact z
end
end Go.Proofs.YtakibiigcdgohaaGreatDoor.na
namespace Go.Proofs.YtakibiigcdgohaaGreatDoor.na
open Go.RowKit Go.Proofs.YtakibiigcdgohaaGreatDoor.fa
set_option maxRecDepth 20000
theorem byt_put {M : Nat → Bool} {w w' : World} {v : Value} {xs : List Int} {x : Nat} (h : Byt (hid M w) v xs) (hx : ∀ j y, w.cell? ⟨x, j, none⟩ ≠ some (.int .u8 y)) (hg : w.grownBy w' (some x)) : Byt (hid M w') v xs := by
  obtain ⟨ao, cap, rfl, h1, h2, h3, h4, h5⟩ := h
  refine ⟨ao, cap, rfl, h1, h2, h3, h4, fun hp => ?_⟩
  obtain ⟨b, off, rfl, hc⟩ := h5 hp
  refine ⟨b, off, rfl, fun t ht => ?_⟩
  obtain ⟨c1, c2⟩ := hid_cell (hc t ht)
  have hb : b ≠ x := fun e => by rw [e] at c1; exact hx _ _ c1
  have hl : b < w.heap.size := World.block_lt_of_cell? w _ c1
  refine cell_hid ?_ c2
  rw [World.cell?_of_block (w := w) (w' := w') (a := ⟨b, off + t, none⟩) (hg.block b hl (by simpa using hb))]
  exact c1
section
variable {M : Nat → Bool} {w : World} {c r d : Nat} {q : Nat → Nat} {pv tv : Value} {g : List Int} {N P S : Nat} {pl : Pln} {X : Raw}
theorem Lay.put {w' : World} {x : Nat} (h : Lay M w c r d q pv tv g N P S pl X) (hg : w.grownBy w' (some x)) (hx : M x = false) (hb : ∀ j y, w.cell? ⟨x, j, none⟩ ≠ some (.int .u8 y)) (hP : Pla (hid M w') pv pl) : Lay M w' c r d q pv tv g N P S pl X := by
  obtain ⟨h1, h2, h3, h4, h5, h6, h7, ⟨dv, t1, t2, t3⟩, h9, h10⟩ := h
  have ne : ∀ k, M k = true → some k ≠ some x := fun k hk e => by
    have e : k = x := by injection e
    rw [e, hx] at hk
    cases hk
  refine ⟨h1, h2, h3, h4.kept hg h10.1 (ne _ h2.1.1), h5.kept hg h10.2.2.1 (ne _ h2.1.2.2.1), h6.kept hg h10.2.1 (ne _ h2.1.2.1), h7.kept hg h10.2.2.2 (fun b hb => ne _ (h2.1.2.2.2 b hb)), ⟨dv, t1.kept hg (own_ne fun k hk e => ?_), fun i hi => byt_put (t2 i hi) hb hg, t3⟩, hP, h10.up hg.size⟩
  have := t3 k hk
  rw [e, hx] at this
  cases this
end
end Go.Proofs.YtakibiigcdgohaaGreatDoor.na
namespace Go.Proofs.YtakibiigcdgohaaGreatDoor
open Go.RowKit
set_option maxRecDepth 20000
def num : List Int → Int := fun xs => xs.foldl (fun n x => (n * 256) % 18446744073709551616 + x) 0
theorem num_snoc (xs : List Int) (x : Int) : num (xs ++ [x]) = (num xs * 256) % 18446744073709551616 + x := by simp [num]
def last8 (xs : List Int) : List Int := xs.drop (xs.length - 8)
theorem take_snoc_gb (xs : List Int) (k : Nat) (h : k < xs.length) : xs.take (k + 1) = xs.take k ++ [gb xs k] := by
  rw [List.take_succ_eq_append_getElem h]; simp [gb, List.getD, h]
theorem shl_or (n x : Int) (hx : 0 ≤ x ∧ x ≤ 255) : bits .or .u64 (IntKind.u64.wrap (n * 256)) (IntKind.u64.wrap x) = (n * 256) % 18446744073709551616 + x := by
  have hw : IntKind.u64.wrap x = x := by rw [IntKind.wrap_u64]; omega
  rw [hw, IntKind.wrap_u64]
  have h0 : 0 ≤ n * 256 % 18446744073709551616 := Int.emod_nonneg _ (by decide)
  have h1 : n * 256 % 18446744073709551616 < 18446744073709551616 := Int.emod_lt_of_pos _ (by decide)
  rw [u64_or _ _ h0 h1 hx.1 (by omega), nat_join 8 _ _ (by omega) (by omega)]
  omega
theorem num_any (v : Value) (xs : List Int) (w : World) (hb : Byt w v xs) :
    Calls Tryz.prog 156 #[v] w fun e w' => e = .returned (.int .u64 (num (last8 xs))) ∧ w' = w := by
  have HB := hb
  obtain ⟨ao, cap, rfl, h1, h2, -, -, -⟩ := hb
  have HBB : Hid (Byt w (.slice ao xs.length cap) xs) := HB
  clear HB
  generalize hys : last8 xs = ys
  have hs : ((clamp (xs.length : Int) 8 : Nat) : Int) = min (max (xs.length : Int) 0) 8 := by unfold clamp; omega
  generalize hsd : clamp (xs.length : Int) 8 = s at hs
  have HS : Hid (clamp (xs.length : Int) 8 = s) := hsd
  have hs1 : s ≤ 8 := by omega
  have hs2 : s ≤ xs.length := by omega
  have HL : Hid (xs.drop (xs.length - s) = ys) := by
    show _ = _
    rw [← hys]; unfold last8; congr 1; omega
  clear hsd hs hys
  go_enter Tryz.func156, Tryz.ntmps156
  go_wp2_with (first
    | (go_at_call 140; refine (within_any _ _ _ (by omega)).mono ?_; rintro e w' ⟨rfl, hw⟩; obtain rfl := hw.symm; rw [HS.out])
    | (refine cut_from _ rfl (.tmp 6) (.tmp 12) rfl _ xs _ (xs.length - s) rfl rfl (by omega) (by omega) HBB.out ?_; intro v' hv; rw [HL.out] at hv; obtain ⟨ao', cap', rfl, k1, k2, k3, -, k5⟩ := hv; have K3 : Hid (AllB ys) := k3; have K5 : Hid (0 < ys.length → ∃ b off, ao' = some ⟨b, off, none⟩ ∧ ∀ t, t < ys.length → w.cell? ⟨b, off + t, none⟩ = some (.int .u8 (gb ys t))) := k5; clear k3 k5))
  go_loop [3, 15] (fun n i => ∃ k : Nat, k ≤ ys.length ∧ i = .int .i64 k ∧ n = .int .u64 (num (ys.take k))) (fun _ i => ys.length - (intOf i).toNat)
  case atStart => exact ⟨0, Nat.zero_le _, rfl, rfl⟩
  case round =>
    obtain ⟨k, hk, rfl, rfl⟩ := hrel
    by_cases hlt : k < ys.length
    · obtain ⟨b, off, rfl, hca⟩ := K5.out (by omega)
      have c0 := hca k hlt
      clear hca
      have SN : Hid (num (ys.take (k + 1)) = num (ys.take k) * 256 % 18446744073709551616 + gb ys k) := by
        show _ = _
        rw [take_snoc_gb ys k hlt, num_snoc]
      go_wp2
      go_round
      case rel => exact ⟨k + 1, by omega, by go_num, by rw [SN.out, shl_or _ _ (K3.out k)]⟩
      case measure => simp [intOf]; omega
    · have hks : k = ys.length := by omega
      subst hks
      rw [List.take_length]
      go_wp2
      go_ret
      exact ⟨rfl, rfl⟩
end Go.Proofs.YtakibiigcdgohaaGreatDoor
namespace Go.Proofs.YtakibiigcdgohaaGreatDoor
open Go.RowKit
set_option maxRecDepth 20000
def sh (n : Int) : Nat → Int
  | 0 => n
  | k + 1 => sh n k / 256
theorem sh_succ (n : Int) (k : Nat) : sh n (k + 1) = sh n k / 256 := rfl
theorem sh_bd (n : Int) (h : 0 ≤ n ∧ n ≤ 18446744073709551615) (k : Nat) : 0 ≤ sh n k ∧ sh n k ≤ 18446744073709551615 := by
  induction k with
  | zero => exact h
  | succ k ih => rw [sh_succ]; omega
def le (n : Int) (k : Nat) : List Int := (List.range k).map fun i => sh n i % 256
theorem le_snoc (n : Int) (k : Nat) : le n (k + 1) = le n k ++ [sh n k % 256] := by simp [le, List.range_succ]
theorem le_len (n : Int) (k : Nat) : (le n k).length = k := by simp [le]
theorem le_all (n : Int) (k : Nat) : AllB (le n k) := allB_mem fun x hx => by
  obtain ⟨i, _, rfl⟩ := List.mem_map.1 hx
  omega
theorem allB_reverse {xs : List Int} (h : AllB xs) : AllB xs.reverse := allB_mem fun x hx => by
  obtain ⟨i, hi, rfl⟩ := List.getElem_of_mem (List.mem_reverse.1 hx)
  have := h i
  simpa [gb, List.getD, hi] using this
def beAt (n : Int) (s k : Nat) : List Int := List.replicate (s - k) 0 ++ (le n k).reverse
theorem beAt_set (n : Int) (s k : Nat) (h : k < s) : (beAt n s k).set (s - 1 - k) (sh n k % 256) = beAt n s (k + 1) := by
  unfold beAt
  obtain ⟨d, hd⟩ : ∃ d, s - k = d + 1 := ⟨s - k - 1, by omega⟩
  have e : s - (k + 1) = d := by omega
  have e' : s - 1 - k = d := by omega
  rw [hd, e, e', List.set_append_left _ _ (by simp), le_snoc, List.replicate_succ', List.set_append_right _ _ (by simp)]
  simp
theorem beAt_end (n : Int) (s : Nat) : beAt n s s = (le n s).reverse := by simp [beAt]
theorem big_any (n k0 : Int) (w : World) (hn : 0 ≤ n ∧ n ≤ 18446744073709551615) :
    Calls Tryz.prog 160 #[.int .u64 n, .int .i64 k0] w fun e w' => ∃ v, e = .returned v ∧ Byt w' v (le n (clamp k0 8)).reverse ∧ Below w.heap.size w w' := by
  have hs := clamp_le k0 8 (by omega)
  generalize hsd : clamp k0 8 = s at hs
  have HS : Hid (clamp k0 8 = s) := hsd
  have hn' : Hid (0 ≤ n ∧ n ≤ 18446744073709551615) := hn
  clear hsd hn
  go_enter Tryz.func160, Tryz.ntmps160
  go_wp2_with (first
    | (go_at_call 140; refine (within_any _ _ _ (by omega)).mono ?_; rintro e w' ⟨rfl, hw⟩; obtain rfl := hw.symm; rw [HS.out])
    | (at_make; refine make_law _ rfl _ _ rfl w.heap.size (Nat.le_refl _) _ s rfl rfl rfl (by omega) ?_; intro w1 hown hbel hlt))
  go_loopw [0, 13] (fun m i wr => ∃ k : Nat, k ≤ s ∧ i = .int .i64 k ∧ m = .int .u64 (sh n k) ∧ OwnN w.heap.size wr w.heap.size s (beAt n s k) ∧ Below w.heap.size w wr) (fun _ i _ => s - (intOf i).toNat)
  case atStart => exact ⟨0, Nat.zero_le _, rfl, rfl, by simpa [beAt, le] using hown, hbel⟩
  case round =>
    clear hown hbel
    obtain ⟨k, hk, rfl, rfl, hown, hbel⟩ := hrel
    by_cases hlt' : k < s
    · have c1 := hown.cell (show s - 1 - k < s by omega)
      have c2 := hown.free (s - 1 - k)
      have hown' := hown.set (s - 1 - k) (sh n k % 256)
      rw [beAt_set n s k hlt'] at hown'
      have bd := sh_bd n hn'.out k
      have e1 : IntKind.u8.wrap (sh n k) = sh n k % 256 := IntKind.wrap_u8' _
      have e2 : ((s : Int) - 1 - (k : Int)).toNat = s - 1 - k := by omega
      go_wp2
      go_roundw
      case rel => exact ⟨k + 1, by omega, by go_num, rfl, hown', hbel.setCell (Nat.le_refl _) _⟩
      case measure => simp [intOf]; omega
    · have : k = s := by omega
      subst this
      rw [beAt_end] at hown
      go_wp2
      go_ret
      exact ⟨_, rfl, hown.byt (allB_reverse (le_all _ _)), hbel⟩
end Go.Proofs.YtakibiigcdgohaaGreatDoor
namespace Go.Proofs.YtakibiigcdgohaaGreatDoor
open Go.RowKit
set_option maxRecDepth 20000
theorem allB_take {xs : List Int} (h : AllB xs) (k : Nat) : AllB (xs.take k) := allB_mem fun x hx => by
  obtain ⟨i, hi, rfl⟩ := List.getElem_of_mem (List.mem_of_mem_take hx)
  have := h i
  simpa [gb, List.getD, hi] using this
end Go.Proofs.YtakibiigcdgohaaGreatDoor
namespace Go.Proofs.YtakibiigcdgohaaGreatDoor
open Go.RowKit
set_option maxRecDepth 20000
def part (zs : List Int) (k : Nat) : List Int := zs.take k ++ List.replicate (zs.length - k) 0
theorem part_zero (zs : List Int) : part zs 0 = List.replicate zs.length 0 := by simp [part]
theorem part_end (zs : List Int) : part zs zs.length = zs := by simp [part]
theorem part_set (zs : List Int) (k : Nat) (h : k < zs.length) : (part zs k).set k (gb zs k) = part zs (k + 1) := by
  unfold part
  obtain ⟨d, hd⟩ : ∃ d, zs.length - k = d + 1 := ⟨zs.length - k - 1, by omega⟩
  have e : zs.length - (k + 1) = d := by omega
  have hm : min k zs.length = k := by omega
  rw [hd, e, List.set_append_right _ _ (by simp; omega), List.take_succ_eq_append_getElem h, List.append_assoc]
  simp only [List.length_take, hm, Nat.sub_self, List.replicate_succ, List.set_cons_zero, gb, List.getD, List.getElem?_eq_getElem h, Option.getD_some, List.cons_append, List.nil_append]
def xr (a b : Int) : Int := ((a.toNat ^^^ b.toNat : Nat) : Int)
theorem xr_of (a b : Int) (ha : 0 ≤ a ∧ a ≤ 255) (hb : 0 ≤ b ∧ b ≤ 255) : bits .xor .u8 a b = xr a b := u8_xor a b ha.1 (by omega) hb.1 (by omega)
theorem xr_bd (a b : Int) (ha : 0 ≤ a ∧ a ≤ 255) (hb : 0 ≤ b ∧ b ≤ 255) : 0 ≤ xr a b ∧ xr a b ≤ 255 := by
  unfold xr
  have := Nat.xor_lt_two_pow (n := 8) (show a.toNat < 2 ^ 8 by omega) (show b.toNat < 2 ^ 8 by omega)
  omega
theorem xr_zero (a b : Int) (ha : 0 ≤ a) (hb : 0 ≤ b) : xr a b = 0 ↔ a = b := by
  unfold xr
  constructor
  · intro h
    have h1 : a.toNat ^^^ b.toNat = 0 := by omega
    have h2 : a.toNat = b.toNat := by
      have := congrArg (· ^^^ b.toNat) h1
      simpa [Nat.xor_assoc] using this
    omega
  · rintro rfl; simp
def xorl (xs ys : List Int) : List Int := List.zipWith xr xs ys
theorem xorl_len (xs ys : List Int) (h : xs.length = ys.length) : (xorl xs ys).length = xs.length := by simp [xorl]; omega
theorem xorl_gb (xs ys : List Int) (h : xs.length = ys.length) (k : Nat) (hk : k < xs.length) : gb (xorl xs ys) k = xr (gb xs k) (gb ys k) := by
  simp [gb, xorl, List.getD, List.getElem?_zipWith, hk, show k < ys.length by omega]
theorem xorl_all (xs ys : List Int) (h : xs.length = ys.length) (ha : AllB xs) (hb : AllB ys) : AllB (xorl xs ys) := by
  intro k
  by_cases hk : k < xs.length
  · rw [xorl_gb xs ys h k hk]; exact xr_bd _ _ (ha k) (hb k)
  · have : gb (xorl xs ys) k = 0 := by simp only [gb, List.getD, List.getElem?_eq_none (show (xorl xs ys).length ≤ k by rw [xorl_len xs ys h]; omega)]; rfl
    omega
theorem xorl_take (xs ys : List Int) (h : xs.length = ys.length) (k : Nat) (hk : k < xs.length) : (xorl xs ys).take (k + 1) = (xorl xs ys).take k ++ [xr (gb xs k) (gb ys k)] := by
  have hl := xorl_len xs ys h
  rw [List.take_succ_eq_append_getElem (by omega), ← xorl_gb xs ys h k hk]
  simp [gb, List.getD, show k < (xorl xs ys).length by omega]
def unl : List Int → Int := fun zs => zs.foldl (fun u z => bits .or .u8 u z) 0
theorem unl_snoc (zs : List Int) (z : Int) : unl (zs ++ [z]) = bits .or .u8 (unl zs) z := by simp [unl]
theorem or_zero (u z : Int) (hu : 0 ≤ u ∧ u ≤ 255) (hz : 0 ≤ z ∧ z ≤ 255) : (0 ≤ bits .or .u8 u z ∧ bits .or .u8 u z ≤ 255) ∧ (bits .or .u8 u z = 0 ↔ u = 0 ∧ z = 0) := by
  rw [u8_or _ _ hu.1 (by omega) hz.1 (by omega)]
  have hlt := Nat.or_lt_two_pow (n := 8) (show u.toNat < 2 ^ 8 by omega) (show z.toNat < 2 ^ 8 by omega)
  have h0 : (u.toNat ||| z.toNat) = 0 ↔ u.toNat = 0 ∧ z.toNat = 0 := Nat.or_eq_zero_iff
  omega
theorem unl_from (zs : List Int) : ∀ u : Int, (0 ≤ u ∧ u ≤ 255) → (∀ z ∈ zs, 0 ≤ z ∧ z ≤ 255) → (zs.foldl (fun u z => bits .or .u8 u z) u = 0 ↔ u = 0 ∧ ∀ z ∈ zs, z = 0) := by
  induction zs with
  | nil => intro u hu h; simp
  | cons z zs ih =>
    intro u hu h
    have o := or_zero u z hu (h z (by simp))
    rw [List.foldl_cons, ih _ o.1 (fun y hy => h y (by simp [hy])), o.2]
    simp [and_assoc]
theorem unl_zero (zs : List Int) (h : ∀ z ∈ zs, 0 ≤ z ∧ z ≤ 255) : unl zs = 0 ↔ ∀ z ∈ zs, z = 0 := by
  unfold unl; rw [unl_from zs 0 (by decide) h]; simp
theorem mem_gb {xs : List Int} {z : Int} (h : z ∈ xs) : ∃ i, i < xs.length ∧ gb xs i = z := by
  obtain ⟨i, hi, rfl⟩ := List.getElem_of_mem h
  exact ⟨i, hi, by simp [gb, List.getD, hi]⟩
theorem gb_mem {xs : List Int} {i : Nat} (h : i < xs.length) : gb xs i ∈ xs := by
  simp [gb, List.getD, h]
theorem unl_same (xs ys : List Int) (h : xs.length = ys.length) (ha : AllB xs) (hb : AllB ys) : (unl (xorl xs ys) == 0) = decide (xs = ys) := by
  have hall : ∀ z ∈ xorl xs ys, 0 ≤ z ∧ z ≤ 255 := fun z hz => by
    obtain ⟨i, hi, rfl⟩ := mem_gb hz
    exact xorl_all xs ys h ha hb i
  rw [Bool.eq_iff_iff]
  simp only [beq_iff_eq, decide_eq_true_eq]
  rw [unl_zero _ hall]
  constructor
  · intro hz
    refine ext_gb h fun t ht => ?_
    have := hz (gb (xorl xs ys) t) (gb_mem (by rw [xorl_len xs ys h]; exact ht))
    rw [xorl_gb xs ys h t ht] at this
    exact (xr_zero _ _ (ha t).1 (hb t).1).1 this
  · rintro rfl z hz
    obtain ⟨i, hi, rfl⟩ := mem_gb hz
    rw [xorl_len xs xs rfl] at hi
    rw [xorl_gb xs xs rfl i hi]
    exact (xr_zero _ _ (ha i).1 (ha i).1).2 rfl
theorem oSame_any (va vb : Value) (xs ys : List Int) (w : World) (ha : Byt w va xs) (hb : Byt w vb ys) :
    Calls Tryz.prog 132 #[va, vb] w fun e w' => e = .returned (.bool (decide (xs = ys))) ∧ ∃ n, w' = w.drewN n := by
  obtain ⟨ao, ca, rfl, ha1, ha2, ha3, -, ha5⟩ := ha
  obtain ⟨bo, cb, rfl, hb1, hb2, hb3, -, hb5⟩ := hb
  by_cases hl : xs.length = ys.length
  · have HL : Hid (xs.length = ys.length) := hl
    have HA5 : Hid (0 < xs.length → ∃ b off, ao = some ⟨b, off, none⟩ ∧ ∀ t, t < xs.length → w.cell? ⟨b, off + t, none⟩ = some (.int .u8 (gb xs t))) := ha5
    have HB5 : Hid (0 < xs.length → ∃ b off, bo = some ⟨b, off, none⟩ ∧ ∀ t, t < xs.length → w.cell? ⟨b, off + t, none⟩ = some (.int .u8 (gb ys t))) := by
      rw [hl]; exact hb5
    have HA : Hid (AllB xs) := ha3
    have HB : Hid (AllB ys) := hb3
    rw [← hl] at hb1 ⊢
    clear hb5 ha5 ha3 hb3 hl
    rw [← unl_same xs ys HL.out HA.out HB.out]
    go_enter Tryz.func132, Tryz.ntmps132
    go_wp2
    go_loopw [5, 14] (fun u i wr => ∃ k n : Nat, k ≤ xs.length ∧ i = .int .i64 k ∧ u = .int .u8 (unl ((xorl xs ys).take k)) ∧ wr = w.drewN n) (fun _ i _ => xs.length - (intOf i).toNat)
    case atStart => exact ⟨0, 0, Nat.zero_le _, rfl, rfl, rfl⟩
    case round =>
      obtain ⟨k, n, hk, rfl, rfl, rfl⟩ := hrel
      by_cases hlt : k < xs.length
      · obtain ⟨b, off, rfl, hca⟩ := HA5.out (by omega)
        obtain ⟨b', off', rfl, hcb⟩ := HB5.out (by omega)
        have c1 : w.cell? ⟨b, off + k, none⟩ = some (.int .u8 (gb xs k)) := hca k hlt
        have c2 : w.cell? ⟨b', off' + k, none⟩ = some (.int .u8 (gb ys k)) := hcb k hlt
        have lk : (k : Int) < (xs.length : Int) := by omega
        have hx : bits .xor .u8 (gb xs k) (gb ys k) = xr (gb xs k) (gb ys k) := xr_of _ _ (HA.out k) (HB.out k)
        have SN : Hid (unl ((xorl xs ys).take (k + 1)) = bits .or .u8 (unl ((xorl xs ys).take k)) (xr (gb xs k) (gb ys k))) := by
          show _ = _
          rw [xorl_take xs ys HL.out k hlt, unl_snoc]
        clear hca hcb
        go_wp2
        go_quiet (fail)
        go_wp2
        go_roundw
        case rel => exact ⟨k + 1, n + nq, by omega, by go_num, by rw [SN.out], rfl⟩
        case measure => simp [intOf]; omega
      · have hks : k = xs.length := by omega
        have e : Hid ((xorl xs ys).take k = xorl xs ys) := List.take_of_length_le (by rw [xorl_len xs ys HL.out]; omega)
        rw [e.out]
        go_wp2
        go_ret
        exact ⟨rfl, n, rfl⟩
  · have : decide (xs = ys) = false := by simp only [decide_eq_false_iff_not]; intro e; exact hl (by rw [e])
    rw [this]
    have h2 : ((xs.length : Int) != (ys.length : Int)) = true := by simp; omega
    go_enter Tryz.func132, Tryz.ntmps132
    go_wp2
    go_ret
    exact ⟨rfl, 0, rfl⟩
def inv (xs : List Int) : List Int := xs.map fun x => xr 255 x
theorem inv_len (xs : List Int) : (inv xs).length = xs.length := by simp [inv]
theorem inv_gb (xs : List Int) (k : Nat) (hk : k < xs.length) : gb (inv xs) k = xr 255 (gb xs k) := by simp [gb, inv, List.getD, hk]
theorem inv_all (xs : List Int) (ha : AllB xs) : AllB (inv xs) := allB_mem fun z hz => by
  obtain ⟨i, hi, rfl⟩ := mem_gb hz
  rw [inv_len] at hi
  rw [inv_gb xs i hi]
  exact xr_bd _ _ (by decide) (ha i)
theorem invert_any (va : Value) (xs : List Int) (w : World) (ha : Byt w va xs) (hmax : xs.length ≤ 1048576) :
    Calls Tryz.prog 142 #[va] w fun e w' => ∃ v, e = .returned v ∧ Byt w' v (inv xs) ∧ Below w.heap.size w w' := by
  obtain ⟨ao, ca, rfl, ha1, ha2, ha3, -, ha5⟩ := ha
  have HA5 : Hid (0 < xs.length → ∃ b off, ao = some ⟨b, off, none⟩ ∧ ∀ t, t < xs.length → w.cell? ⟨b, off + t, none⟩ = some (.int .u8 (gb xs t))) := ha5
  have HA : Hid (AllB xs) := ha3
  clear ha5 ha3
  have HZ : Hid ((inv xs).length = xs.length) := inv_len xs
  go_enter Tryz.func142, Tryz.ntmps142
  go_wp2_with (at_make; refine make_law _ rfl (.tmp 6) (.tmp 6) rfl w.heap.size (Nat.le_refl _) _ xs.length rfl rfl rfl (by omega) ?_; intro w1 hown hbel hlt)
  go_loopw [10] (fun i wr => ∃ k : Nat, k ≤ xs.length ∧ i = .int .i64 k ∧ OwnN w.heap.size wr w.heap.size xs.length (part (inv xs) k) ∧ Below w.heap.size w wr) (fun i _ => xs.length - (intOf i).toNat)
  case atStart => exact ⟨0, Nat.zero_le _, rfl, by rw [part_zero, HZ.out]; exact hown, hbel⟩
  case round =>
    clear hown hbel
    obtain ⟨k, hk, rfl, hown, hbel⟩ := hrel
    by_cases hlt' : k < xs.length
    · obtain ⟨b, off, rfl, hca⟩ := HA5.out (by omega)
      have n1 := World.block_lt_of_cell? w _ (hca k hlt')
      have c1 : wr.cell? ⟨b, off + k, none⟩ = some (.int .u8 (gb xs k)) := (hbel.cell n1).trans (hca k hlt')
      have c3 := hown.cell hlt'
      have c4 := hown.free k
      have HX : Hid (bits .xor .u8 (if IntKind.u8.signed = true then -1 else IntKind.u8.max) (gb xs k) = xr 255 (gb xs k)) := xr_of 255 _ (by decide) (HA.out k)
      have hown' : OwnN w.heap.size (wr.setCell ⟨w.heap.size, k, none⟩ (.int .u8 (xr 255 (gb xs k)))) w.heap.size xs.length (part (inv xs) (k + 1)) := by
        have h := hown.set k (gb (inv xs) k)
        rw [part_set _ k (by rw [HZ.out]; exact hlt'), inv_gb xs k hlt'] at h
        exact h
      clear hca
      go_wp2
      go_roundw
      case rel => exact ⟨k + 1, by omega, by go_num, by rw [HX.out]; exact hown', hbel.setCell (Nat.le_refl _) _⟩
      case measure => simp [intOf]; omega
    · have hks : k = xs.length := by omega
      subst hks
      have hown2 : OwnN w.heap.size wr w.heap.size xs.length (inv xs) := by
        have := hown; rw [← HZ.out, part_end, HZ.out] at this; exact this
      go_wp2
      go_ret
      exact ⟨_, rfl, hown2.byt (inv_all _ HA.out), hbel⟩
end Go.Proofs.YtakibiigcdgohaaGreatDoor
