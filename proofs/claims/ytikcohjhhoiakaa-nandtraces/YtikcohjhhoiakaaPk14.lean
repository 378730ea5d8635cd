/- Texts put together. -/
import Derived.Test.YtikcohjhhoiakaaPk13
import Derived.Test.YtikcohjhhoiakaaPk01
import Derived.Test.YtikcohjhhoiakaaPk03
set_option maxHeartbeats 8000000
namespace Go.Proofs.Ytikcohjhhoiakaa.na
open Go.RowKit Go.Proofs.Ytikcohjhhoiakaa.fa
set_option maxRecDepth 20000
theorem zeros_ints (n : Nat) : (Builtin.zeroCells (Value.int .i64 0).cells n).toList = (List.replicate n (0 : Int)).map (Value.int .i64) := by
 simp only [Builtin.zeroCells, Value.cells, List.map_replicate]
 simp [Nat.mod_one, List.map_const']
theorem info_int : (Try.prog.info? 3).map (fun i => (i.zero, i.size, i.bytes)) = some (some (.int .i64 0), 1, 8) := by kernel_rfl
theorem clear_lawI {ops : Array Oper} {rest : List Oper} {a : Act} {Q : Exit → Act → World → Prop} {d : Option Tmp} {s : Operand} {ty : TypeId} {pos : String} {af : Array Edge} (w : World) (b n cap : Nat) (xs : List Int) (hs : a.eval s = .slice (some ⟨b, 0, none⟩) n cap) (hA : Ar w b 0 .i64 xs) (hl : xs.length = n) (hn : 0 < n)
  (hK : ∀ w', Hid (w' = w.setCells b 0 ((List.replicate n (0 : Int)).map (Value.int .i64))) → wpList Try.prog ops Q rest (a.put d (.tuple #[])) w') :
  wpList Try.prog ops Q (⟨d, .call { callee := .builtin .clear, args := #[s], argTypes := #[48] }, ty, pos, af, none⟩ :: rest) a w := by
 refine wpList_plain rfl fun K hK' => ?_
 obtain ⟨i0, hi, hz0, hz1, hz2⟩ := info_parts info_int
 obtain ⟨k, rfl⟩ : ∃ k, n = k + 1 := ⟨n - 1, by omega⟩
 have hst := run_storeCells_cells (P := Try.prog) b 0 ((List.replicate (k + 1) (0 : Int)).map (Value.int .i64)) 0 w (fun j hj => by rw [Nat.add_zero, Nat.zero_add, hA.cell0 j (by simp at hj; omega)]; rfl) (fun j hj => by rw [Nat.add_zero, Nat.zero_add]; exact hA.free0 j (by simp at hj; omega)) (fun v hv => by obtain ⟨z, -, rfl⟩ := List.mem_map.1 hv; rfl)
 have hrun : (Builtin.clear_ #[48] ty #[.slice (some ⟨b, 0, none⟩) (k + 1) cap]).run Try.prog w = .ok (.tuple #[]) (w.setCells b 0 ((List.replicate (k + 1) (0 : Int)).map (Value.int .i64))) := by
  rw [Nat.add_zero] at hst
  rw [List.map_replicate] at hst ⊢
  simp only [Builtin.clear_]
  simp [run_underlying Try.underlying48, zeroValue, typeInfo, hi, hz0, zeros_ints, hst]
 unfold Oper.wp execOp
 simp only [resolve, invoke, builtin, Sem.run_bind, Sem.run_pure, Result.andThen_ok, List.map_toArray, List.map_cons, List.map_nil, hs, hrun]
 exact hK' _ _ (hK _ rfl)
theorem at1_id {α : Type} (f : Nat → α) (b : Nat) : at1 f b (f b) = f := funext fun k => by
 unfold at1
 split
 ·rename_i e; rw [e]
 ·rfl
section
variable {M : Nat → Bool} {w : World} {c r d : Nat} {q : Nat → Nat} {pv tv : Value} {g : List Int} {N P S : Nat} {pl : Pln} {X : Raw}
theorem erase_off (h : Lay M w c r d q pv tv g N P S pl X) (ho : xo X = false) (b : Int) : Calls Try.prog 30 #[.pointer (some ⟨c, 0, none⟩), .int .i64 b] w fun e w' => e = .returned (.int .i64 4) ∧ w' = w := by
 have SB : Hid (Calls Try.prog 53 #[.pointer (some ⟨c, 0, none⟩), .int .i64 b] w fun e w' => e = .returned (.tuple #[.slice none 0 0, .int .i64 4]) ∧ w' = w) := blockCells_off h ho b
 clear h
 go_enter Try.func30, Try.ntmps30
 go_wp2_with (go_at_call 53; refine SB.out.mono ?_; rintro e w' ⟨rfl, hw⟩; obtain rfl := hw.symm)
 go_ret
 exact ⟨rfl, rfl⟩
theorem erase_no (h : Lay M w c r d q pv tv g N P S pl X) (ho : xo X = true) (b : Int) (hb : ¬ (0 ≤ b ∧ b < N)) : Calls Try.prog 30 #[.pointer (some ⟨c, 0, none⟩), .int .i64 b] w fun e w' => e = .returned (.int .i64 2) ∧ w' = w := by
 have SB : Hid (Calls Try.prog 53 #[.pointer (some ⟨c, 0, none⟩), .int .i64 b] w fun e w' => e = .returned (.tuple #[.slice none 0 0, .int .i64 2]) ∧ w' = w) := blockCells_no h ho b hb
 clear h hb
 go_enter Try.func30, Try.ntmps30
 go_wp2_with (go_at_call 53; refine SB.out.mono ?_; rintro e w' ⟨rfl, hw⟩; obtain rfl := hw.symm)
 go_ret
 exact ⟨rfl, rfl⟩
theorem scrub_off (h : Lay M w c r d q pv tv g N P S pl X) (ho : xo X = false) (b : Int) : Calls Try.prog 31 #[.pointer (some ⟨c, 0, none⟩), .int .i64 b] w fun e w' => e = .returned (.int .i64 4) ∧ w' = w := by
 have SB : Hid (Calls Try.prog 53 #[.pointer (some ⟨c, 0, none⟩), .int .i64 b] w fun e w' => e = .returned (.tuple #[.slice none 0 0, .int .i64 4]) ∧ w' = w) := blockCells_off h ho b
 clear h
 go_enter Try.func31, Try.ntmps31
 go_wp2_with (go_at_call 53; refine SB.out.mono ?_; rintro e w' ⟨rfl, hw⟩; obtain rfl := hw.symm)
 go_ret
 exact ⟨rfl, rfl⟩
theorem scrub_no (h : Lay M w c r d q pv tv g N P S pl X) (ho : xo X = true) (b : Int) (hb : ¬ (0 ≤ b ∧ b < N)) : Calls Try.prog 31 #[.pointer (some ⟨c, 0, none⟩), .int .i64 b] w fun e w' => e = .returned (.int .i64 2) ∧ w' = w := by
 have SB : Hid (Calls Try.prog 53 #[.pointer (some ⟨c, 0, none⟩), .int .i64 b] w fun e w' => e = .returned (.tuple #[.slice none 0 0, .int .i64 2]) ∧ w' = w) := blockCells_no h ho b hb
 clear h hb
 go_enter Try.func31, Try.ntmps31
 go_wp2_with (go_at_call 53; refine SB.out.mono ?_; rintro e w' ⟨rfl, hw⟩; obtain rfl := hw.symm)
 go_ret
 exact ⟨rfl, rfl⟩
theorem erase_none (h : Lay M w c r d q pv tv g N P S pl X) (hM : Mlt M w) (ho : xo X = true) (b : Nat) (hb : b < N) (hpl : pl (xt X).length = none) (he : 0 ≤ xe X b ∧ xe X b ≤ 1000000) (htr : (xt X).length ≤ 1000000) :
  Calls Try.prog 30 #[.pointer (some ⟨c, 0, none⟩), .int .i64 (b : Int)] w (Done M w c r d q pv g N P S pl (ans none) (mkX (laid (xi X) (b * (P * S)) ((fun o : Option (Bool × List Int) => match o with | none => List.replicate (P * S) 255 | some (_, m) => ofb (P * S) (erased (cut (P * S) (xi X) b) m)) none)) (at1 (xp X) b (List.replicate P 0)) (at1 (xe X) b (xe X b + 1)) (at1 (xs X) b false) (!crs none) (xt X ++ [opn 2 b 0 [] (ans none)]))) := by
 have SB : Hid (Calls Try.prog 53 #[.pointer (some ⟨c, 0, none⟩), .int .i64 (b : Int)] w fun e w' => e = .returned (.tuple #[(.slice (some ⟨d, b * (P * S), none⟩) (P * S) (N * (P * S) - b * (P * S))), .int .i64 0]) ∧ Below w.heap.size w w') := blockCells_yes h ho b hb
 have HL := hdH (h)
 have HM := hdH (hM)
 have HBN := hdH (hb)
 have HF : Hid (b * (P * S) + P * S ≤ N * (P * S)) := by
  have := Nat.mul_le_mul_right (P * S) (show b + 1 ≤ N by omega)
  rw [Nat.succ_mul] at this
  exact this
 have HBY := h.bytes
 have SD : Hid (∀ w, Calls Try.prog 54 #[] w fun e w' => ∃ dv, e = .returned dv ∧ Below w.heap.size w w' ∧ ∀ w0 va xs, Byt w0 va xs → 0 < xs.length → xs.length ≤ 1048576 → Deed w0 dv va (fun o => match o with | none => List.replicate xs.length 255 | some (_, m) => ofb xs.length (erased xs m))) := erasing_any
 have CL : Hid ((cut (P * S) (xi X) b).length = P * S) := cut_len2 h b (P * S) HF.out
 have RW : Hid (∀ o : Option (Bool × List Int), ((fun o : Option (Bool × List Int) => match o with | none => List.replicate (P * S) 255 | some (_, m) => ofb (P * S) (erased (cut (P * S) (xi X) b) m)) o).length = P * S ∧ AllB ((fun o : Option (Bool × List Int) => match o with | none => List.replicate (P * S) 255 | some (_, m) => ofb (P * S) (erased (cut (P * S) (xi X) b) m)) o)) := fun o => by
  match o with
  | none => exact ⟨by simp, allB_replicate _ _ (by omega)⟩
  | some (_, m) => exact ⟨ofb_len _ _, ofb_all _ _⟩
 have SP : Hid (∀ w0 deed, Lay M w0 c r d q pv tv g N P S pl (mkX (xi X) (xp X) (at1 (xe X) b (xe X b + 1)) (xs X) (xo X) (xt X)) → Mlt M w0 → Deed w0 deed (.slice (some ⟨d, b * (P * S), none⟩) (P * S) (N * (P * S) - b * (P * S))) (fun o => match o with | none => List.replicate (P * S) 255 | some (_, m) => ofb (P * S) (erased (cut (P * S) (xi X) b) m)) → Calls Try.prog 51 #[.pointer (some ⟨c, 0, none⟩), .agg #[.int .i64 2, .int .i64 (b : Int), .int .i64 0, .slice none 0 0, .int .i64 0], (.slice (some ⟨d, b * (P * S), none⟩) (P * S) (N * (P * S) - b * (P * S))), deed] w0 (Perf M w0 c r d q pv g N P S pl (mkX (xi X) (xp X) (at1 (xe X) b (xe X b + 1)) (xs X) (xo X) (xt X)) (b * (P * S)) ((fun o : Option (Bool × List Int) => match o with | none => List.replicate (P * S) 255 | some (_, m) => ofb (P * S) (erased (cut (P * S) (xi X) b) m)) none) (opn 2 b 0 [] 0) none)) := fun w0 deed hl hm hd => by
  have := perform_any hl hm ho (opn 2 b 0 [] 0) rfl (.slice none 0 0) (b * (P * S)) (P * S) (N * (P * S) - b * (P * S)) deed (fun o => match o with | none => List.replicate (P * S) 255 | some (_, m) => ofb (P * S) (erased (cut (P * S) (xi X) b) m)) hd (Byt.nil _) HF.out RW.out htr
  have e : pl (xt (mkX (xi X) (xp X) (at1 (xe X) b (xe X b + 1)) (xs X) (xo X) (xt X))).length = none := hpl
  rw [e] at this
  exact this
 obtain ⟨s0, s1, s2⟩ := h.st hb
 have qw : IntKind.i64.wrap (xe X b + 1) = xe X b + 1 := by rw [IntKind.wrap_i64]; omega
 have i0 : (0 : Int) ≤ (b : Int) := by omega
 have i1 : (b : Int) < (N : Int) := by omega
 have HSC : Hid (∀ w0, Lay M w0 c r d q pv tv g N P S pl (mkX (xi X) (xp X) (at1 (xe X) b (xe X b + 1)) (xs X) (xo X) (xt X)) → Byt w0 (.slice (some ⟨d, b * (P * S), none⟩) (P * S) (N * (P * S) - b * (P * S))) (cut (P * S) (xi X) b)) := fun w0 hl => hl.part b (P * S) HF.out _ (by have := HF.out; omega) (by have := HBY; omega)
 obtain ⟨rs, hrs⟩ : ∃ rs, rs = ((fun o : Option (Bool × List Int) => match o with | none => List.replicate (P * S) 255 | some (_, m) => ofb (P * S) (erased (cut (P * S) (xi X) b) m)) none) := ⟨_, rfl⟩
 rw [← hrs] at SP ⊢
 clear h hM ho hb hpl he hrs
 have t0 := tR
 go_enter Try.func30, Try.ntmps30
 go_wp2_with (first
  | (have q_6 := t6; refine store_law1 _ r (b * 3 + 2) (.bool false) rfl rfl ((HL.out.2.2.2.2.2.1 b HBN.out).2 2 (by omega)).1 ((HL.out.2.2.2.2.2.1 b HBN.out).2 2 (by omega)).2 one_bool.2 rfl rfl ?_; intro w9 e9
     have HL : Hid (Lay M' w9 c r d q pv tv' g N P S pl (mkX (laid (xi X) (b * (P * S)) rs) (at1 (xp X) b (List.replicate P 0)) (at1 (xe X) b (xe X b + 1)) (at1 (xs X) b false) (!crs none) (xt X ++ [opn 2 b 0 [] (ans none)]))) := by
      have := HL.out.sts b HBN.out (at1 (xe X) b (xe X b + 1) b) false 2 (.bool false) (by omega) rfl
      rw [← e9.out] at this
      have e1 : at1 (at1 (xe X) b (xe X b + 1)) b (at1 (xe X) b (xe X b + 1) b) = at1 (xe X) b (xe X b + 1) := at1_id _ b
      exact e1 ▸ this
     have F9 : Hid (Frm M' w8 w9) := by rw [e9.out]; exact Frm.set HL.out.2.1.1.2.1 _ _
     clear e9 t6)
  | (have q_5 := t5; refine clear_lawI _ (q b) P P (xp X b) rfl HQ.out.1 HQ.out.2 (by have := HL.out.num; omega) ?_; intro w8 e8
     have g8 : w7.grownBy w8 (some (q b)) := by rw [e8.out]; exact keep_cells _ _ _ _
     have HL : Hid (Lay M' w8 c r d q pv tv' g N P S pl (mkX (laid (xi X) (b * (P * S)) rs) (at1 (xp X) b (List.replicate P 0)) (at1 (xe X) b (xe X b + 1)) (xs X) (!crs none) (xt X ++ [opn 2 b 0 [] (ans none)]))) := by
      refine HL.out.prs b HBN.out g8 _ ?_ (by simp)
      rw [e8.out]
      exact Ar.whole (by rw [List.length_replicate]; have := HQ.out.1.2; rw [HQ.out.2] at this; exact this)
     have F8 : Hid (Frm M' w7 w8) := Frm.grown g8 (fun k e => by injection e with e; subst e; exact HL.out.2.1.1.2.2.2 b HBN.out)
     have s2 := (HL.out.st HBN.out).2.2
     clear e8 g8 t5; have t6 := tR)
  | (have q_4 := t4; go_at_call 51; refine (SP.out _ _ HL.out HMw.out HDE.out).mono ?_; rintro e w7 ⟨M', tv', rfl, L7, S7, F7, T7⟩
     have HL := hdH (L7)
     have FF7 : Hid ((∀ k, k < w.heap.size → M' k = M k) ∧ Frm M w w7 ∧ Mlt M' w7) := ⟨fun k hk => S7 k (Nat.lt_of_lt_of_le hk FF.out.size), FF.out.tr F7, T7⟩
     have s0 := (HL.out.st HBN.out).1
     have HQ : Hid (Ar w7 (q b) 0 .i64 (xp X b) ∧ (xp X b).length = P) := HL.out.2.2.2.2.2.2.1 b HBN.out
     clear L7 S7 F7 T7 t4; have t5 := tR)
  | (have q_3 := t3; go_at_call 54; refine (SD.out _).mono ?_; rintro e w6 ⟨deed, rfl, B6, z6⟩
     have HL := hdH (HL.out.below B6)
     have FF : Hid (Frm M w w6) := FF.out.tr (Frm.of_below B6)
     have HMw : Hid (Mlt M w6) := fun k hk => Nat.lt_of_lt_of_le (HM.out k hk) FF.out.size
     have HDE : Hid (Deed w6 deed (.slice (some ⟨d, b * (P * S), none⟩) (P * S) (N * (P * S) - b * (P * S))) (fun o => match o with | none => List.replicate (P * S) 255 | some (_, m) => ofb (P * S) (erased (cut (P * S) (xi X) b) m))) := by
      have := z6 w6 _ _ (HSC.out w6 HL.out) (by rw [CL.out]; omega) (by rw [CL.out]; omega)
      rw [CL.out] at this
      exact this
     clear B6 z6 t3; have t4 := tR)
  | (have q_2 := t2; refine store_law1 _ r (b * 3 + 1) (.int .i64 (xe X b + 1)) rfl rfl ((HL.out.2.2.2.2.2.1 b HBN.out).2 1 (by omega)).1 ((HL.out.2.2.2.2.2.1 b HBN.out).2 1 (by omega)).2 one_int.2 rfl rfl ?_; intro w5 e5
     have HL5 := HL.out.sts b HBN.out (xe X b + 1) (xs X b) 1 (.int .i64 (xe X b + 1)) (by omega) rfl
     rw [← e5.out, at1_id (xs X) b] at HL5
     have HL := hdH (HL5)
     have FF : Hid (Frm M w w5) := FF.out.tr (by rw [e5.out]; exact Frm.set HL.out.2.1.1.2.1 _ _)
     clear e5 HL5 t2; have t3 := tR)
  | (have q_1 := t0; go_at_call 53; refine SB.out.mono ?_; rintro e w3 ⟨rfl, B3⟩
     have HL := hdH (HL.out.below B3)
     have f9 := HL.out.cells.2.2.2.1
     have s1 := (HL.out.st HBN.out).2.1
     have FF : Hid (Frm M w w3) := Frm.of_below B3
     clear B3 t0; have t2 := tR))
 go_ret
 refine ⟨M', tv', rfl, HL.out, FF7.out.1, ?_, ?_⟩
 ·have f1 : Frm M' w7 w9 := F8.out.tr F9.out
  exact FF7.out.2.1.trans f1 (fun k hk h => (FF7.out.1 k hk).trans h)
 ·exact fun k hk => Nat.lt_of_lt_of_le (FF7.out.2.2 k hk) (F8.out.tr F9.out).size
theorem erase_some (h : Lay M w c r d q pv tv g N P S pl X) (hM : Mlt M w) (ho : xo X = true) (b : Nat) (hb : b < N) (cr : Bool) (mm : List Int) (hpl : pl (xt X).length = (some (cr, mm))) (he : 0 ≤ xe X b ∧ xe X b ≤ 1000000) (htr : (xt X).length ≤ 1000000) :
  Calls Try.prog 30 #[.pointer (some ⟨c, 0, none⟩), .int .i64 (b : Int)] w (Done M w c r d q pv g N P S pl (ans (some (cr, mm))) (mkX (laid (xi X) (b * (P * S)) ((fun o : Option (Bool × List Int) => match o with | none => List.replicate (P * S) 255 | some (_, m) => ofb (P * S) (erased (cut (P * S) (xi X) b) m)) (some (cr, mm)))) (xp X) (at1 (xe X) b (xe X b + 1)) (xs X) (!crs (some (cr, mm))) (xt X ++ [opn 2 b 0 [] (ans (some (cr, mm)))]))) := by
 have SB : Hid (Calls Try.prog 53 #[.pointer (some ⟨c, 0, none⟩), .int .i64 (b : Int)] w fun e w' => e = .returned (.tuple #[(.slice (some ⟨d, b * (P * S), none⟩) (P * S) (N * (P * S) - b * (P * S))), .int .i64 0]) ∧ Below w.heap.size w w') := blockCells_yes h ho b hb
 have HL := hdH (h)
 have HM := hdH (hM)
 have HBN := hdH (hb)
 have HF : Hid (b * (P * S) + P * S ≤ N * (P * S)) := by
  have := Nat.mul_le_mul_right (P * S) (show b + 1 ≤ N by omega)
  rw [Nat.succ_mul] at this
  exact this
 have HBY := h.bytes
 have SD : Hid (∀ w, Calls Try.prog 54 #[] w fun e w' => ∃ dv, e = .returned dv ∧ Below w.heap.size w w' ∧ ∀ w0 va xs, Byt w0 va xs → 0 < xs.length → xs.length ≤ 1048576 → Deed w0 dv va (fun o => match o with | none => List.replicate xs.length 255 | some (_, m) => ofb xs.length (erased xs m))) := erasing_any
 have CL : Hid ((cut (P * S) (xi X) b).length = P * S) := cut_len2 h b (P * S) HF.out
 have RW : Hid (∀ o : Option (Bool × List Int), ((fun o : Option (Bool × List Int) => match o with | none => List.replicate (P * S) 255 | some (_, m) => ofb (P * S) (erased (cut (P * S) (xi X) b) m)) o).length = P * S ∧ AllB ((fun o : Option (Bool × List Int) => match o with | none => List.replicate (P * S) 255 | some (_, m) => ofb (P * S) (erased (cut (P * S) (xi X) b) m)) o)) := fun o => by
  match o with
  | none => exact ⟨by simp, allB_replicate _ _ (by omega)⟩
  | some (_, m) => exact ⟨ofb_len _ _, ofb_all _ _⟩
 have SP : Hid (∀ w0 deed, Lay M w0 c r d q pv tv g N P S pl (mkX (xi X) (xp X) (at1 (xe X) b (xe X b + 1)) (xs X) (xo X) (xt X)) → Mlt M w0 → Deed w0 deed (.slice (some ⟨d, b * (P * S), none⟩) (P * S) (N * (P * S) - b * (P * S))) (fun o => match o with | none => List.replicate (P * S) 255 | some (_, m) => ofb (P * S) (erased (cut (P * S) (xi X) b) m)) → Calls Try.prog 51 #[.pointer (some ⟨c, 0, none⟩), .agg #[.int .i64 2, .int .i64 (b : Int), .int .i64 0, .slice none 0 0, .int .i64 0], (.slice (some ⟨d, b * (P * S), none⟩) (P * S) (N * (P * S) - b * (P * S))), deed] w0 (Perf M w0 c r d q pv g N P S pl (mkX (xi X) (xp X) (at1 (xe X) b (xe X b + 1)) (xs X) (xo X) (xt X)) (b * (P * S)) ((fun o : Option (Bool × List Int) => match o with | none => List.replicate (P * S) 255 | some (_, m) => ofb (P * S) (erased (cut (P * S) (xi X) b) m)) (some (cr, mm))) (opn 2 b 0 [] 0) (some (cr, mm)))) := fun w0 deed hl hm hd => by
  have := perform_any hl hm ho (opn 2 b 0 [] 0) rfl (.slice none 0 0) (b * (P * S)) (P * S) (N * (P * S) - b * (P * S)) deed (fun o => match o with | none => List.replicate (P * S) 255 | some (_, m) => ofb (P * S) (erased (cut (P * S) (xi X) b) m)) hd (Byt.nil _) HF.out RW.out htr
  have e : pl (xt (mkX (xi X) (xp X) (at1 (xe X) b (xe X b + 1)) (xs X) (xo X) (xt X))).length = (some (cr, mm)) := hpl
  rw [e] at this
  exact this
 obtain ⟨s0, s1, s2⟩ := h.st hb
 have qw : IntKind.i64.wrap (xe X b + 1) = xe X b + 1 := by rw [IntKind.wrap_i64]; omega
 have i0 : (0 : Int) ≤ (b : Int) := by omega
 have i1 : (b : Int) < (N : Int) := by omega
 have HSC : Hid (∀ w0, Lay M w0 c r d q pv tv g N P S pl (mkX (xi X) (xp X) (at1 (xe X) b (xe X b + 1)) (xs X) (xo X) (xt X)) → Byt w0 (.slice (some ⟨d, b * (P * S), none⟩) (P * S) (N * (P * S) - b * (P * S))) (cut (P * S) (xi X) b)) := fun w0 hl => hl.part b (P * S) HF.out _ (by have := HF.out; omega) (by have := HBY; omega)
 obtain ⟨rs, hrs⟩ : ∃ rs, rs = ((fun o : Option (Bool × List Int) => match o with | none => List.replicate (P * S) 255 | some (_, m) => ofb (P * S) (erased (cut (P * S) (xi X) b) m)) (some (cr, mm))) := ⟨_, rfl⟩
 rw [← hrs] at SP ⊢
 clear h hM ho hb hpl he hrs
 have hane : (ans (some (cr, mm)) == 0) = false := by cases cr <;> rfl
 have t0 := tR
 go_enter Try.func30, Try.ntmps30
 go_wp2_with (first
  | (have q_4 := t4; go_at_call 51; refine (SP.out _ _ HL.out HMw.out HDE.out).mono ?_; rintro e w7 ⟨M', tv', rfl, L7, S7, F7, T7⟩
     have HL := hdH (L7)
     have FF7 : Hid ((∀ k, k < w.heap.size → M' k = M k) ∧ Frm M w w7 ∧ Mlt M' w7) := ⟨fun k hk => S7 k (Nat.lt_of_lt_of_le hk FF.out.size), FF.out.tr F7, T7⟩
     have s0 := (HL.out.st HBN.out).1
     have HQ : Hid (Ar w7 (q b) 0 .i64 (xp X b) ∧ (xp X b).length = P) := HL.out.2.2.2.2.2.2.1 b HBN.out
     clear L7 S7 F7 T7 t4; have t5 := tR)
  | (have q_3 := t3; go_at_call 54; refine (SD.out _).mono ?_; rintro e w6 ⟨deed, rfl, B6, z6⟩
     have HL := hdH (HL.out.below B6)
     have FF : Hid (Frm M w w6) := FF.out.tr (Frm.of_below B6)
     have HMw : Hid (Mlt M w6) := fun k hk => Nat.lt_of_lt_of_le (HM.out k hk) FF.out.size
     have HDE : Hid (Deed w6 deed (.slice (some ⟨d, b * (P * S), none⟩) (P * S) (N * (P * S) - b * (P * S))) (fun o => match o with | none => List.replicate (P * S) 255 | some (_, m) => ofb (P * S) (erased (cut (P * S) (xi X) b) m))) := by
      have := z6 w6 _ _ (HSC.out w6 HL.out) (by rw [CL.out]; omega) (by rw [CL.out]; omega)
      rw [CL.out] at this
      exact this
     clear B6 z6 t3; have t4 := tR)
  | (have q_2 := t2; refine store_law1 _ r (b * 3 + 1) (.int .i64 (xe X b + 1)) rfl rfl ((HL.out.2.2.2.2.2.1 b HBN.out).2 1 (by omega)).1 ((HL.out.2.2.2.2.2.1 b HBN.out).2 1 (by omega)).2 one_int.2 rfl rfl ?_; intro w5 e5
     have HL5 := HL.out.sts b HBN.out (xe X b + 1) (xs X b) 1 (.int .i64 (xe X b + 1)) (by omega) rfl
     rw [← e5.out, at1_id (xs X) b] at HL5
     have HL := hdH (HL5)
     have FF : Hid (Frm M w w5) := FF.out.tr (by rw [e5.out]; exact Frm.set HL.out.2.1.1.2.1 _ _)
     clear e5 HL5 t2; have t3 := tR)
  | (have q_1 := t0; go_at_call 53; refine SB.out.mono ?_; rintro e w3 ⟨rfl, B3⟩
     have HL := hdH (HL.out.below B3)
     have f9 := HL.out.cells.2.2.2.1
     have s1 := (HL.out.st HBN.out).2.1
     have FF : Hid (Frm M w w3) := Frm.of_below B3
     clear B3 t0; have t2 := tR))
 go_ret
 exact ⟨M', tv', rfl, HL.out, FF7.out⟩
theorem scrub_any (h : Lay M w c r d q pv tv g N P S pl X) (hM : Mlt M w) (ho : xo X = true) (b : Nat) (hb : b < N) (htr : (xt X).length ≤ 1000000) :
  Calls Try.prog 31 #[.pointer (some ⟨c, 0, none⟩), .int .i64 (b : Int)] w (Done M w c r d q pv g N P S pl (ans (pl (xt X).length)) (mkX (laid (xi X) (b * (P * S)) ((fun o : Option (Bool × List Int) => match o with | none => List.replicate (P * S) 0 | some (_, m) => ofb (P * S) (torn (cut (P * S) (xi X) b) (List.replicate (P * S) 0) m)) (pl (xt X).length))) (xp X) (xe X) (at1 (xs X) b true) (!crs (pl (xt X).length)) (xt X ++ [opn 3 b 0 [] (ans (pl (xt X).length))]))) := by
 have SB : Hid (Calls Try.prog 53 #[.pointer (some ⟨c, 0, none⟩), .int .i64 (b : Int)] w fun e w' => e = .returned (.tuple #[(.slice (some ⟨d, b * (P * S), none⟩) (P * S) (N * (P * S) - b * (P * S))), .int .i64 0]) ∧ Below w.heap.size w w') := blockCells_yes h ho b hb
 have HL := hdH (h)
 have HM := hdH (hM)
 have HBN := hdH (hb)
 have HF : Hid (b * (P * S) + P * S ≤ N * (P * S)) := by
  have := Nat.mul_le_mul_right (P * S) (show b + 1 ≤ N by omega)
  rw [Nat.succ_mul] at this
  exact this
 have HBY := h.bytes
 have SD : Hid (∀ w, Calls Try.prog 55 #[] w fun e w' => ∃ dv, e = .returned dv ∧ Below w.heap.size w w' ∧ ∀ w0 va xs, Byt w0 va xs → 0 < xs.length → xs.length ≤ 1048576 → Deed w0 dv va (fun o => match o with | none => List.replicate xs.length 0 | some (_, m) => ofb xs.length (torn xs (List.replicate xs.length 0) m))) := scrubbing_any
 have CL : Hid ((cut (P * S) (xi X) b).length = P * S) := cut_len2 h b (P * S) HF.out
 have RW : Hid (∀ o : Option (Bool × List Int), ((fun o : Option (Bool × List Int) => match o with | none => List.replicate (P * S) 0 | some (_, m) => ofb (P * S) (torn (cut (P * S) (xi X) b) (List.replicate (P * S) 0) m)) o).length = P * S ∧ AllB ((fun o : Option (Bool × List Int) => match o with | none => List.replicate (P * S) 0 | some (_, m) => ofb (P * S) (torn (cut (P * S) (xi X) b) (List.replicate (P * S) 0) m)) o)) := fun o => by
  match o with
  | none => exact ⟨by simp, allB_replicate _ _ (by omega)⟩
  | some (_, m) => exact ⟨ofb_len _ _, ofb_all _ _⟩
 have SP : Hid (∀ w0 deed, Lay M w0 c r d q pv tv g N P S pl (mkX (xi X) (xp X) (xe X) (at1 (xs X) b true) (xo X) (xt X)) → Mlt M w0 → Deed w0 deed (.slice (some ⟨d, b * (P * S), none⟩) (P * S) (N * (P * S) - b * (P * S))) (fun o => match o with | none => List.replicate (P * S) 0 | some (_, m) => ofb (P * S) (torn (cut (P * S) (xi X) b) (List.replicate (P * S) 0) m)) → Calls Try.prog 51 #[.pointer (some ⟨c, 0, none⟩), .agg #[.int .i64 3, .int .i64 (b : Int), .int .i64 0, .slice none 0 0, .int .i64 0], (.slice (some ⟨d, b * (P * S), none⟩) (P * S) (N * (P * S) - b * (P * S))), deed] w0 (Perf M w0 c r d q pv g N P S pl (mkX (xi X) (xp X) (xe X) (at1 (xs X) b true) (xo X) (xt X)) (b * (P * S)) ((fun o : Option (Bool × List Int) => match o with | none => List.replicate (P * S) 0 | some (_, m) => ofb (P * S) (torn (cut (P * S) (xi X) b) (List.replicate (P * S) 0) m)) (pl (xt X).length)) (opn 3 b 0 [] 0) (pl (xt X).length))) := fun w0 deed hl hm hd => by
  have := perform_any hl hm ho (opn 3 b 0 [] 0) rfl (.slice none 0 0) (b * (P * S)) (P * S) (N * (P * S) - b * (P * S)) deed (fun o => match o with | none => List.replicate (P * S) 0 | some (_, m) => ofb (P * S) (torn (cut (P * S) (xi X) b) (List.replicate (P * S) 0) m)) hd (Byt.nil _) HF.out RW.out htr
  skip
  skip
  exact this
 obtain ⟨s0, s1, s2⟩ := h.st hb
 skip
 have i0 : (0 : Int) ≤ (b : Int) := by omega
 have i1 : (b : Int) < (N : Int) := by omega
 have HSC : Hid (∀ w0, Lay M w0 c r d q pv tv g N P S pl (mkX (xi X) (xp X) (xe X) (at1 (xs X) b true) (xo X) (xt X)) → Byt w0 (.slice (some ⟨d, b * (P * S), none⟩) (P * S) (N * (P * S) - b * (P * S))) (cut (P * S) (xi X) b)) := fun w0 hl => hl.part b (P * S) HF.out _ (by have := HF.out; omega) (by have := HBY; omega)
 obtain ⟨rs, hrs⟩ : ∃ rs, rs = ((fun o : Option (Bool × List Int) => match o with | none => List.replicate (P * S) 0 | some (_, m) => ofb (P * S) (torn (cut (P * S) (xi X) b) (List.replicate (P * S) 0) m)) (pl (xt X).length)) := ⟨_, rfl⟩
 rw [← hrs] at SP ⊢
 clear h hM ho hb hrs
 have t0 := tR
 go_enter Try.func31, Try.ntmps31
 go_wp2_with (first
  | (have q_4 := t4; go_at_call 51; refine (SP.out _ _ HL.out HMw.out HDE.out).mono ?_; rintro e w7 ⟨M', tv', rfl, L7, S7, F7, T7⟩
     have HL := hdH (L7)
     have FF7 : Hid ((∀ k, k < w.heap.size → M' k = M k) ∧ Frm M w w7 ∧ Mlt M' w7) := ⟨fun k hk => S7 k (Nat.lt_of_lt_of_le hk FF.out.size), FF.out.tr F7, T7⟩
     have s0 := (HL.out.st HBN.out).1
     have HQ : Hid (Ar w7 (q b) 0 .i64 (xp X b) ∧ (xp X b).length = P) := HL.out.2.2.2.2.2.2.1 b HBN.out
     clear L7 S7 F7 T7 t4; have t5 := tR)
  | (have q_3 := t3; go_at_call 55; refine (SD.out _).mono ?_; rintro e w6 ⟨deed, rfl, B6, z6⟩
     have HL := hdH (HL.out.below B6)
     have FF : Hid (Frm M w w6) := FF.out.tr (Frm.of_below B6)
     have HMw : Hid (Mlt M w6) := fun k hk => Nat.lt_of_lt_of_le (HM.out k hk) FF.out.size
     have HDE : Hid (Deed w6 deed (.slice (some ⟨d, b * (P * S), none⟩) (P * S) (N * (P * S) - b * (P * S))) (fun o => match o with | none => List.replicate (P * S) 0 | some (_, m) => ofb (P * S) (torn (cut (P * S) (xi X) b) (List.replicate (P * S) 0) m))) := by
      have := z6 w6 _ _ (HSC.out w6 HL.out) (by rw [CL.out]; omega) (by rw [CL.out]; omega)
      rw [CL.out] at this
      exact this
     clear B6 z6 t3; have t4 := tR)
  | (have q_2 := t2; refine store_law1 _ r (b * 3 + 2) (.bool true) rfl rfl ((HL.out.2.2.2.2.2.1 b HBN.out).2 2 (by omega)).1 ((HL.out.2.2.2.2.2.1 b HBN.out).2 2 (by omega)).2 one_bool.2 rfl rfl ?_; intro w5 e5
     have HL5 := HL.out.sts b HBN.out (xe X b) true 2 (.bool true) (by omega) rfl
     rw [← e5.out, at1_id (xe X) b] at HL5
     have HL := hdH (HL5)
     have FF : Hid (Frm M w w5) := FF.out.tr (by rw [e5.out]; exact Frm.set HL.out.2.1.1.2.1 _ _)
     clear e5 HL5 t2; have t3 := tR)
  | (have q_1 := t0; go_at_call 53; refine SB.out.mono ?_; rintro e w3 ⟨rfl, B3⟩
     have HL := hdH (HL.out.below B3)
     have f9 := HL.out.cells.2.2.2.1
     have s1 := (HL.out.st HBN.out).2.1
     have FF : Hid (Frm M w w3) := Frm.of_below B3
     clear B3 t0; have t2 := tR))
 go_ret
 exact ⟨M', tv', rfl, HL.out, FF7.out⟩
end
theorem set_all {xs : List Int} {a : Nat} {x : Int} (hx : AllB xs) (h : 0 ≤ x ∧ x ≤ 255) (ha : a < xs.length) : AllB (xs.set a x) := fun j => by
 rw [gb_set1 xs a j x ha]
 split
 ·exact h
 ·exact hx j
section
variable {M : Nat → Bool} {w : World} {c r d : Nat} {q : Nat → Nat} {pv tv : Value} {g : List Int} {N P S : Nat} {pl : Pln} {X : Raw}
theorem poke_on (h : Lay M w c r d q pv tv g N P S pl X) (p : List Int) (a x : Int) (ho : xo X = true) :
  Calls Try.prog 32 #[.pointer (some ⟨c, 0, none⟩), .agg (ints .i64 p), .int .i64 a, .int .u8 x] w fun e w' => e = .returned (.int .i64 4) ∧ Below w.heap.size w w' := by
 have HL := hdH (h)
 have HON := hdH (ho)
 clear h ho
 have t0 := tR
 go_enter Try.func32, Try.ntmps32
 go_wp2_with (first
  | (have q0 := t0; refine box_lawF _ rfl (.tmp 1) 43 rfl .i64 p rfl ?_; intro w1 X1 B1 l1; have HP := hdH (X1); have HL := hdH (HL.out.below B1); have f7 : w1.cell? ⟨c, 7, none⟩ = some (.bool true) := by rw [← HON.out]; exact HL.out.cells.2.1
     have BB := hdH (B1); clear X1 B1 t0; have t1 := tR))
 go_ret
 exact ⟨rfl, BB.out⟩
theorem poke_no (h : Lay M w c r d q pv tv g N P S pl X) (p : List Int) (hp : p.length = 2) (a x : Int) (ho : xo X = false) (hn : ¬ (0 ≤ gb p 0 ∧ gb p 0 < N ∧ 0 ≤ gb p 1 ∧ gb p 1 < P)) :
  Calls Try.prog 32 #[.pointer (some ⟨c, 0, none⟩), .agg (ints .i64 p), .int .i64 a, .int .u8 x] w fun e w' => e = .returned (.int .i64 2) ∧ Below w.heap.size w w' := by
 have HL := hdH (h)
 have HON := hdH (ho)
 have HN := hdH (hn)
 clear h ho hn
 have t0 := tR
 have t2 := tR
 go_enter Try.func32, Try.ntmps32
 go_wp2_with (first
  | (have q3 := t3; go_at_call 48; refine (pageCells_no HL.out p hp HN.out).mono ?_; rintro e w3 ⟨rfl, B3⟩; have HL := hdH (HL.out.below B3); have BB := bT BB B3; clear B3 t3; have t4 := tR)
  | (have q2 := t2; refine load_lawS _ (by rfl) _ _ rfl (ld_place hp HP.out.1) ?_; clear t2; have t3 := tR)
  | (have q0 := t0; refine box_lawF _ rfl (.tmp 1) 43 rfl .i64 p rfl ?_; intro w1 X1 B1 l1; have HP := hdH (X1); have HL := hdH (HL.out.below B1); have f7 : w1.cell? ⟨c, 7, none⟩ = some (.bool false) := by rw [← HON.out]; exact HL.out.cells.2.1
     have BB := hdH (B1); clear X1 B1 t0; have t1 := tR))
 go_ret
 exact ⟨rfl, BB.out⟩
theorem poke_low (h : Lay M w c r d q pv tv g N P S pl X) (p : List Int) (hp : p.length = 2) (a x : Int) (ho : xo X = false) (b j : Nat) (e0 : gb p 0 = b) (e1 : gb p 1 = j) (hb : b < N) (hj : j < P) (ha : a < 0) :
  Calls Try.prog 32 #[.pointer (some ⟨c, 0, none⟩), .agg (ints .i64 p), .int .i64 a, .int .u8 x] w fun e w' => e = .returned (.int .i64 2) ∧ Below w.heap.size w w' := by
 have HL := hdH (h)
 have HON := hdH (ho)
 obtain ⟨n, hn⟩ : ∃ n, n = b * P + j := ⟨_, rfl⟩
 have HPG : Hid (gb p 0 = b ∧ gb p 1 = j ∧ b < N ∧ j < P ∧ n = b * P + j) := ⟨e0, e1, hb, hj, hn⟩
 clear h ho e0 e1 hb hj hn
 have t0 := tR
 have t2 := tR
 go_enter Try.func32, Try.ntmps32
 go_wp2_with (first
  | (have q3 := t3; go_at_call 48; refine (pageCells_yes HL.out p hp b j n HPG.out.1 HPG.out.2.1 HPG.out.2.2.1 HPG.out.2.2.2.1 HPG.out.2.2.2.2).mono ?_; rintro e w3 ⟨rfl, B3⟩; have HL := hdH (HL.out.below B3); have BB := bT BB B3; clear B3 t3; have t4 := tR)
  | (have q2 := t2; refine load_lawS _ (by rfl) _ _ rfl (ld_place hp HP.out.1) ?_; clear t2; have t3 := tR)
  | (have q0 := t0; refine box_lawF _ rfl (.tmp 1) 43 rfl .i64 p rfl ?_; intro w1 X1 B1 l1; have HP := hdH (X1); have HL := hdH (HL.out.below B1); have f7 : w1.cell? ⟨c, 7, none⟩ = some (.bool false) := by rw [← HON.out]; exact HL.out.cells.2.1
     have BB := hdH (B1); clear X1 B1 t0; have t1 := tR))
 go_ret
 exact ⟨rfl, BB.out⟩
theorem poke_high (h : Lay M w c r d q pv tv g N P S pl X) (p : List Int) (hp : p.length = 2) (a x : Int) (ho : xo X = false) (b j : Nat) (e0 : gb p 0 = b) (e1 : gb p 1 = j) (hb : b < N) (hj : j < P) (ha : (S : Int) ≤ a) (h0 : 0 ≤ a) :
  Calls Try.prog 32 #[.pointer (some ⟨c, 0, none⟩), .agg (ints .i64 p), .int .i64 a, .int .u8 x] w fun e w' => e = .returned (.int .i64 2) ∧ Below w.heap.size w w' := by
 have HL := hdH (h)
 have HON := hdH (ho)
 obtain ⟨n, hn⟩ : ∃ n, n = b * P + j := ⟨_, rfl⟩
 have HPG : Hid (gb p 0 = b ∧ gb p 1 = j ∧ b < N ∧ j < P ∧ n = b * P + j) := ⟨e0, e1, hb, hj, hn⟩
 have h0' : ¬ (a < 0) := by omega
 clear h ho e0 e1 hb hj hn
 have t0 := tR
 have t2 := tR
 go_enter Try.func32, Try.ntmps32
 go_wp2_with (first
  | (have q3 := t3; go_at_call 48; refine (pageCells_yes HL.out p hp b j n HPG.out.1 HPG.out.2.1 HPG.out.2.2.1 HPG.out.2.2.2.1 HPG.out.2.2.2.2).mono ?_; rintro e w3 ⟨rfl, B3⟩; have HL := hdH (HL.out.below B3); have BB := bT BB B3; clear B3 t3; have t4 := tR)
  | (have q2 := t2; refine load_lawS _ (by rfl) _ _ rfl (ld_place hp HP.out.1) ?_; clear t2; have t3 := tR)
  | (have q0 := t0; refine box_lawF _ rfl (.tmp 1) 43 rfl .i64 p rfl ?_; intro w1 X1 B1 l1; have HP := hdH (X1); have HL := hdH (HL.out.below B1); have f7 : w1.cell? ⟨c, 7, none⟩ = some (.bool false) := by rw [← HON.out]; exact HL.out.cells.2.1
     have BB := hdH (B1); clear X1 B1 t0; have t1 := tR))
 go_ret
 exact ⟨rfl, BB.out⟩
theorem poke_do (h : Lay M w c r d q pv tv g N P S pl X) (hM : Mlt M w) (p : List Int) (hp : p.length = 2) (a x : Int) (ho : xo X = false) (b j : Nat) (e0 : gb p 0 = b) (e1 : gb p 1 = j) (hb : b < N) (hj : j < P) (k : Nat) (ha : a = k) (hk : k < S) (hx : 0 ≤ x ∧ x ≤ 255) :
  Calls Try.prog 32 #[.pointer (some ⟨c, 0, none⟩), .agg (ints .i64 p), .int .i64 a, .int .u8 x] w (Done M w c r d q pv g N P S pl 0 (mkX ((xi X).set ((b * P + j) * S + k) x) (xp X) (xe X) (xs X) (xo X) (xt X))) := by
 have HL := hdH (h)
 have HON := hdH (ho)
 obtain ⟨n, hn⟩ : ∃ n, n = b * P + j := ⟨_, rfl⟩
 have HPG : Hid (gb p 0 = b ∧ gb p 1 = j ∧ b < N ∧ j < P ∧ n = b * P + j) := ⟨e0, e1, hb, hj, hn⟩
 have HXB := hdH (hx)
 have HK : Hid (n * S + k < N * (P * S)) := by
  have := (idx_fits (S := S) hb hj).1
  rw [← hn, Nat.succ_mul] at this
  show _ < _
  omega
 have i0 : ¬ ((k : Int) < 0) := by omega
 have i1 : ¬ ((S : Int) ≤ (k : Int)) := by omega
 have i2 : (0 : Int) ≤ (k : Int) := by omega
 have i3 : (k : Int) < (S : Int) := by omega
 have HM := hdH (hM)
 subst ha
 rw [← hn]
 clear h ho e0 e1 hb hj hn hx hk hM
 have t0 := tR
 have t2 := tR
 go_enter Try.func32, Try.ntmps32
 go_wp2_with (first
  | (have q_4 := t4; refine store_law1 _ d (n * S + k) (.int .u8 x) rfl rfl (HA4.out).1 (HA4.out).2.1 i_u8 rfl rfl ?_; intro w5 e5
     have g5 : w3.grownBy w5 (some d) := by rw [e5.out]; exact keep_set _ _ _ _
     have HL5 : Hid (Lay M w5 c r d q pv tv g N P S pl (mkX ((xi X).set (n * S + k) x) (xp X) (xe X) (xs X) (xo X) (xt X))) := by
      refine HL.out.img g5 _ ?_ (by rw [List.length_set]; exact HL.out.2.2.2.2.1.2.1) (set_all HL.out.2.2.2.2.1.2.2 HXB.out (by rw [HL.out.2.2.2.2.1.2.1]; exact HK.out))
      rw [e5.out]
      exact HL.out.2.2.2.2.1.1.set0 (n * S + k) (by rw [HL.out.2.2.2.2.1.2.1]; exact HK.out) x
     have F5 : Hid (Frm M w w5) := (Frm.of_below BB.out).tr (Frm.grown g5 (fun k e => by injection e with e; subst e; exact HL.out.2.1.1.2.2.1))
     clear e5 g5 t4)
  | (have q3 := t3; go_at_call 48; refine (pageCells_yes HL.out p hp b j n HPG.out.1 HPG.out.2.1 HPG.out.2.2.1 HPG.out.2.2.2.1 HPG.out.2.2.2.2).mono ?_; rintro e w3 ⟨rfl, B3⟩; have HL := hdH (HL.out.below B3); have BB := bT BB B3; have HA4 : Hid ((w3.cell? ⟨d, n * S + k, none⟩).isSome = true ∧ w3.frozen? ⟨d, n * S + k, none⟩ = false ∧ True) := ⟨by rw [HL.out.2.2.2.2.1.1.cell0 (n * S + k) (by rw [HL.out.2.2.2.2.1.2.1]; exact HK.out)]; rfl, HL.out.2.2.2.2.1.1.free0 (n * S + k) (by rw [HL.out.2.2.2.2.1.2.1]; exact HK.out), trivial⟩; clear B3 t3; have t4 := tR)
  | (have q2 := t2; refine load_lawS _ (by rfl) _ _ rfl (ld_place hp HP.out.1) ?_; clear t2; have t3 := tR)
  | (have q0 := t0; refine box_lawF _ rfl (.tmp 1) 43 rfl .i64 p rfl ?_; intro w1 X1 B1 l1; have HP := hdH (X1); have HL := hdH (HL.out.below B1); have f7 : w1.cell? ⟨c, 7, none⟩ = some (.bool false) := by rw [← HON.out]; exact HL.out.cells.2.1
     have BB := hdH (B1); clear X1 B1 t0; have t1 := tR))
 go_ret
 exact ⟨M, tv, rfl, HL5.out, fun _ _ => rfl, F5.out, fun k hk => Nat.lt_of_lt_of_le (HM.out k hk) F5.out.size⟩
theorem read_yes (h : Lay M w c r d q pv tv g N P S pl X) (p : List Int) (hp : p.length = 2) (ho : xo X = true) (b j : Nat) (e0 : gb p 0 = b) (e1 : gb p 1 = j) (hb : b < N) (hj : j < P) :
  Calls Try.prog 22 #[.pointer (some ⟨c, 0, none⟩), .agg (ints .i64 p)] w fun e w' => ∃ v, e = .returned (.tuple #[v, .int .i64 0]) ∧ Bow w.heap.size w' v (cut S (xi X) (b * P + j)) ∧ Below w.heap.size w w' := by
 have HL := hdH (h)
 have HON := hdH (ho)
 obtain ⟨n, hn⟩ : ∃ n, n = b * P + j := ⟨_, rfl⟩
 have HPG : Hid (gb p 0 = b ∧ gb p 1 = j ∧ b < N ∧ j < P ∧ n = b * P + j) := ⟨e0, e1, hb, hj, hn⟩
 have HK : Hid (n * S + S ≤ N * (P * S)) := by
  have := (idx_fits (S := S) hb hj).1
  rw [← hn, Nat.succ_mul] at this
  exact this
 have HB := h.bytes
 have HNM := h.num
 rw [← hn]
 clear h ho e0 e1 hb hj hn
 have t0 := tR
 go_enter Try.func22, Try.ntmps22
 go_wp2_with (first
  | (have q4 := t4; go_at_call 46; refine (bclone_any _ (cut S (xi X) n) _ (HL.out.part n S HK.out _ (by have := HK.out; omega) (by omega)) (by rw [cut_len2 HL.out n S HK.out]; omega)).mono ?_; rintro e w5 ⟨v5, rfl, y5, B5⟩; have Y5 := hdH (y5); have BB5 := bT BB B5; have Z3 : Hid (w.heap.size ≤ w3.heap.size) := BB.out.size; clear y5 B5 t4)
  | (have q3 := t3; go_at_call 48; refine (pageCells_yes HL.out p hp b j n HPG.out.1 HPG.out.2.1 HPG.out.2.2.1 HPG.out.2.2.2.1 HPG.out.2.2.2.2).mono ?_; rintro e w3 ⟨rfl, B3⟩; have HL := hdH (HL.out.below B3); have BB := bT BB B3; clear B3 t3; have t4 := tR)
  | (have q2 := t2; refine load_lawS _ (by rfl) _ _ rfl (ld_place hp HP.out.1) ?_; clear t2; have t3 := tR)
  | (have q1 := t1; go_at_call 17; refine (on_any c _ _ HL.out.cells.2.1).mono ?_; rintro e w' ⟨rfl, hw⟩; obtain rfl := hw.symm; rw [HON.out]; clear t1; have t2 := tR)
  | (have q0 := t0; refine box_lawF _ rfl (.tmp 1) 43 rfl .i64 p rfl ?_; intro w1 X1 B1 l1; have HP := hdH (X1); have HL := hdH (HL.out.below B1); have BB := hdH (B1); clear X1 B1 t0; have t1 := tR))
 go_ret2
 exact ⟨_, rfl, Y5.out.mono Z3.out, BB5.out⟩
end
end Go.Proofs.Ytikcohjhhoiakaa.na
namespace Go.Proofs.Ytikcohjhhoiakaa.fa
open Go.RowKit
set_option maxRecDepth 20000
end Go.Proofs.Ytikcohjhhoiakaa.fa
