/- P8.2: products of any three lists of sixteen bytes are commutative, associative and distributive. -/
import Derived.Test.YtjojimffolagmaaTAwk
namespace Go.Proofs.Ytjojimffolagmaa.twiceRules
open Go.ChangeShapes Go.WideShapes Go.ChangeAt Go.RowKit

theorem cells_arr16 : Try.prog.cellsOf 37 = 16 := by kernel_rfl
theorem ua_a16 : Try.prog.underlying 37 = some (.array (Try.prog.arrayLen 37) (Try.prog.elem 37)) := by kernel_rfl
theorem la_a16 : Try.prog.arrayLen 37 = 16 := by kernel_rfl
theorem ia_a16 : (Try.prog.info? (Try.prog.elem 37)).map (·.size) = some 1 := by kernel_rfl

/-- 'x[:]' of an array -/
theorem exec_all {ev : Operand → Value} {o : Oper} (x : Operand) (t : TypeId) (hop : o.op = Op.slice t x none none none) (b p n : Nat) (hu : Try.prog.underlying t = some (.array (Try.prog.arrayLen t) (Try.prog.elem t))) (hn : Try.prog.arrayLen t = n) (hs : (Try.prog.info? (Try.prog.elem t)).map (·.size) = some 1)
    (hx : ev x = .pointer (some ⟨b, p, none⟩)) (w : World) : (execOp ev o).run Try.prog w = .ok (.value (.slice (some ⟨b, p, none⟩) n n)) w := by
  have hsz : (sizeOf (Try.prog.elem t)).run Try.prog w = .ok 1 w := by
    cases hqq : Try.prog.info? (Try.prog.elem t) with
    | none => simp [hqq] at hs
    | some i0 =>
      have : i0.size = 1 := by simpa [hqq] using hs
      simp [sizeOf, typeInfo, hqq, this]
  have hrun := run_sliceAt_array_all (P := Try.prog) w t ⟨b, p, none⟩ hu
  rw [hsz, hn] at hrun
  have hv : slicedAt ⟨b, p, none⟩ 0 n n 1 = .slice (some ⟨b, p, none⟩) n n := by
    unfold slicedAt
    rw [Nat.zero_mul, Addr.add_mid]
    simp
  simp only [Result.andThen] at hrun
  rw [hv] at hrun
  unfold execOp
  simp only [hop, hx, Option.map, Sem.run_bind, Sem.run_pure, Result.andThen_ok, hrun]
/-- a call, guarded or not -/
theorem step_callW {ops : Array Oper} {o : Oper} {a : Act} {Q : Exit → Act → World → Prop} {K : Act → World → Prop} {E : Prop} (w : World) (hw : Region.wanted o (yielded ops a.tmps) = true) (d : Option Tmp) (hd : o.dst = d) (f : FuncId) (args : Array Operand) (ats : Array TypeId) (hop : o.op = .call { callee := .value (.func f), args := args, argTypes := ats })
    (hcf : ∀ (q : Array Value) (w : World), (callFunc f q).run Try.prog w = .ok (.enter f q) w) (vs : Array Value) (hx : args.map a.eval = vs) (R : Value → World → Prop) (hc : Calls Try.prog f vs w fun e w' => ∃ v, e = .returned v ∧ R v w') (hK : ∀ v w', R v w' → K (a.put d v) w') : if Region.wanted o (yielded ops a.tmps) = true then Oper.wp Try.prog o a w K Q else E := by
  rw [if_pos hw]
  subst hd
  subst hx
  unfold Oper.wp
  simp only [execOp, hop]
  go_simp
  refine hc.mono ?_
  rintro e w' ⟨v, rfl, hr⟩
  exact hK v w' hr

set_option maxHeartbeats 2000000 in
theorem lmul_any (va vb : Value) (xs ys zs : List Int) (w : World) (ha : Byt w va xs) (hb : Byt w vb ys) (hl : xs.length = 16) (hm : ys.length = 16) (hz : bt16 (tp (nm16 xs) (nm16 ys)) = zs) :
    Calls Try.prog 18 #[va, vb] w fun e w' => ∃ v, e = .returned v ∧ ∃ g, v = .slice (some ⟨g, 0, none⟩) 16 16 ∧ Byt w' (.slice (some ⟨g, 0, none⟩) 16 16) zs ∧ Below w.heap.size w w' := by
  have HM : Hid (Calls Try.prog 15 #[va, vb] w fun e w' => ∃ g, e = .returned (.tuple #[.slice (some ⟨g, 0, none⟩) 16 16, .int .i64 0]) ∧ Ar w' g 0 .u8 zs ∧ w.heap.size ≤ g ∧ Below w.heap.size w w') := by
    have := mul_any va vb xs ys w ha hb hl hm
    rw [hz] at this
    exact this
  have ZB : Hid (zs.length = 16 ∧ AllB zs) := by rw [← hz]; exact ⟨bt16_len _, bt16_all _⟩
  clear ha hb hl hm hz
  go_enter Try.func18, Try.ntmps18
  go_wp2_with (go_at_call 15; refine HM.out.mono ?_; rintro e w1 ⟨g1, rfl, A1, h1, B1⟩)
  go_ret
  exact ⟨_, rfl, g1, rfl, A1.bytG ZB.out.2 16 16 ZB.out.1 (by omega) (by omega), B1⟩

set_option maxRecDepth 20000 in
set_option maxHeartbeats 8000000 in
theorem walk (l0 l1 l2 : List Nat) (w : World) (n0 : l0.length = 16) (b0 : ∀ x ∈ l0, x < 256) (n1 : l1.length = 16) (b1 : ∀ x ∈ l1, x < 256) (n2 : l2.length = 16) (b2 : ∀ x ∈ l2, x < 256) :
    Calls Try.prog 6 #[.agg (l0.map fun x : Nat => Value.int .u8 (x : Int)).toArray, .agg (l1.map fun x : Nat => Value.int .u8 (x : Int)).toArray, .agg (l2.map fun x : Nat => Value.int .u8 (x : Int)).toArray] w fun e w' => e = .returned (.bool true) ∧ Below w.heap.size w w' := by
  rw [arr_ints, arr_ints, arr_ints]
  have aa := arr_all l0 b0
  have ba := arr_all l1 b1
  have ca := arr_all l2 b2
  have al : (cI l0).length = 16 := by rw [cI_len]; exact n0
  have bl : (cI l1).length = 16 := by rw [cI_len]; exact n1
  have cl_ : (cI l2).length = 16 := by rw [cI_len]; exact n2
  generalize cI l0 = as_ at *
  generalize cI l1 = bs at *
  generalize cI l2 = cs at *
  clear n0 b0 n1 b1 n2 b2
  have hA := nm16_lt as_ aa
  have hB := nm16_lt bs ba
  have hC := nm16_lt cs ca
  have hP := tp_lt (nm16 as_) (nm16 bs) hA
  have hQ := tp_lt (nm16 as_) (nm16 cs) hA
  have hR := tp_lt (nm16 bs) (nm16 cs) hB
  have hbc : bs.length = cs.length := by rw [bl, cl_]
  have M1 : Hid (∀ va vb w0, Byt w0 va as_ → Byt w0 vb bs → Calls Try.prog 18 #[va, vb] w0 fun e w' => ∃ v, e = .returned v ∧ ∃ g, v = .slice (some ⟨g, 0, none⟩) 16 16 ∧ Byt w' (.slice (some ⟨g, 0, none⟩) 16 16) (bt16 (tp (nm16 as_) (nm16 bs))) ∧ Below w0.heap.size w0 w') := fun va vb w0 h1 h2 => lmul_any va vb as_ bs _ w0 h1 h2 al bl rfl
  have M2 : Hid (∀ va vb w0, Byt w0 va as_ → Byt w0 vb cs → Calls Try.prog 18 #[va, vb] w0 fun e w' => ∃ v, e = .returned v ∧ ∃ g, v = .slice (some ⟨g, 0, none⟩) 16 16 ∧ Byt w' (.slice (some ⟨g, 0, none⟩) 16 16) (bt16 (tp (nm16 as_) (nm16 cs))) ∧ Below w0.heap.size w0 w') := fun va vb w0 h1 h2 => lmul_any va vb as_ cs _ w0 h1 h2 al cl_ rfl
  have M3 : Hid (∀ va vb w0, Byt w0 va bs → Byt w0 vb as_ → Calls Try.prog 18 #[va, vb] w0 fun e w' => ∃ v, e = .returned v ∧ ∃ g, v = .slice (some ⟨g, 0, none⟩) 16 16 ∧ Byt w' (.slice (some ⟨g, 0, none⟩) 16 16) (bt16 (tp (nm16 as_) (nm16 bs))) ∧ Below w0.heap.size w0 w') := fun va vb w0 h1 h2 => lmul_any va vb bs as_ _ w0 h1 h2 bl al (by rw [tp_comm _ _ hB hA])
  have M4 : Hid (∀ va vb w0, Byt w0 va (bt16 (tp (nm16 as_) (nm16 bs))) → Byt w0 vb cs → Calls Try.prog 18 #[va, vb] w0 fun e w' => ∃ v, e = .returned v ∧ ∃ g, v = .slice (some ⟨g, 0, none⟩) 16 16 ∧ Byt w' (.slice (some ⟨g, 0, none⟩) 16 16) (bt16 (tp (tp (nm16 as_) (nm16 bs)) (nm16 cs))) ∧ Below w0.heap.size w0 w') := fun va vb w0 h1 h2 => lmul_any va vb _ cs _ w0 h1 h2 (bt16_len _) cl_ (by rw [nm_bt _ hP])
  have M5 : Hid (∀ va vb w0, Byt w0 va bs → Byt w0 vb cs → Calls Try.prog 18 #[va, vb] w0 fun e w' => ∃ v, e = .returned v ∧ ∃ g, v = .slice (some ⟨g, 0, none⟩) 16 16 ∧ Byt w' (.slice (some ⟨g, 0, none⟩) 16 16) (bt16 (tp (nm16 bs) (nm16 cs))) ∧ Below w0.heap.size w0 w') := fun va vb w0 h1 h2 => lmul_any va vb bs cs _ w0 h1 h2 bl cl_ rfl
  have M6 : Hid (∀ va vb w0, Byt w0 va as_ → Byt w0 vb (bt16 (tp (nm16 bs) (nm16 cs))) → Calls Try.prog 18 #[va, vb] w0 fun e w' => ∃ v, e = .returned v ∧ ∃ g, v = .slice (some ⟨g, 0, none⟩) 16 16 ∧ Byt w' (.slice (some ⟨g, 0, none⟩) 16 16) (bt16 (tp (tp (nm16 as_) (nm16 bs)) (nm16 cs))) ∧ Below w0.heap.size w0 w') := fun va vb w0 h1 h2 => lmul_any va vb as_ _ _ w0 h1 h2 al (bt16_len _) (by rw [nm_bt _ hR, tp_assoc _ _ _ hA hB])
  have M7 : Hid (∀ va vb w0, Byt w0 va as_ → Byt w0 vb (xorl bs cs) → Calls Try.prog 18 #[va, vb] w0 fun e w' => ∃ v, e = .returned v ∧ ∃ g, v = .slice (some ⟨g, 0, none⟩) 16 16 ∧ Byt w' (.slice (some ⟨g, 0, none⟩) 16 16) (bt16 (tp (nm16 as_) (nm16 bs) ^^^ tp (nm16 as_) (nm16 cs))) ∧ Below w0.heap.size w0 w') := fun va vb w0 h1 h2 => lmul_any va vb as_ _ _ w0 h1 h2 al (by rw [xorl_len _ _ hbc, bl]) (by rw [nm_xor _ _ ⟨bl, ba⟩ ⟨cl_, ca⟩, tp_dist])
  have X1 : Hid (∀ va vb w0, Byt w0 va bs → Byt w0 vb cs → Calls Try.prog 17 #[va, vb] w0 fun e w' => ∃ v, e = .returned v ∧ Byt w' v (xorl bs cs) ∧ Below w0.heap.size w0 w') := fun va vb w0 h1 h2 => rxor_any va vb bs cs w0 h1 h2 hbc (by omega)
  have X2 : Hid (∀ va vb w0, Byt w0 va (bt16 (tp (nm16 as_) (nm16 bs))) → Byt w0 vb (bt16 (tp (nm16 as_) (nm16 cs))) → Calls Try.prog 17 #[va, vb] w0 fun e w' => ∃ v, e = .returned v ∧ Byt w' v (bt16 (tp (nm16 as_) (nm16 bs) ^^^ tp (nm16 as_) (nm16 cs))) ∧ Below w0.heap.size w0 w') := fun va vb w0 h1 h2 => by
    have := rxor_any va vb _ _ w0 h1 h2 (by rw [bt16_len, bt16_len]) (by rw [bt16_len]; omega)
    rwa [xor_bt _ _ hP hQ] at this
  have SM : Hid (∀ va vb w0 zs, Byt w0 va zs → Byt w0 vb zs → Calls Try.prog 11 #[va, vb] w0 fun e w' => ∃ v, e = .returned v ∧ v = .bool true ∧ Below w0.heap.size w0 w') := fun va vb w0 zs h1 h2 => (same_yes w0 va vb zs h1 h2).mono fun _ _ ⟨he, hb⟩ => ⟨_, he, rfl, hb⟩
  have AW : Hid (∀ w0, Calls Try.prog 8 #[] w0 fun e w' => ∃ v, e = .returned v ∧ v = .bool true ∧ Below w0.heap.size w0 w') := fun w0 => (awake_any w0).mono fun _ _ ⟨he, hb⟩ => ⟨_, he, rfl, hb⟩
  have AL : Hid ((AllB as_ ∧ as_.length = 16) ∧ (AllB bs ∧ bs.length = 16) ∧ (AllB cs ∧ cs.length = 16)) := ⟨⟨aa, al⟩, ⟨ba, bl⟩, ⟨ca, cl_⟩⟩
  clear aa ba ca al bl cl_ hA hB hC hP hQ hR hbc
  generalize bt16 (tp (nm16 as_) (nm16 bs) ^^^ tp (nm16 as_) (nm16 cs)) = dd at *
  generalize bt16 (tp (tp (nm16 as_) (nm16 bs)) (nm16 cs)) = tt at *
  generalize bt16 (tp (nm16 as_) (nm16 bs)) = ab at *
  generalize bt16 (tp (nm16 as_) (nm16 cs)) = ac at *
  generalize bt16 (tp (nm16 bs) (nm16 cs)) = bc at *
  generalize xorl bs cs = ss at *
  go_enter Try.func6, Try.ntmps6
  go_wp2_with (first
    | (have q2 := s2; refine box_lawF _ rfl (.tmp 2) 37 rfl .u8 cs rfl ?_; intro w3 A3 B3 s3)
    | (have q1 := s1; refine box_lawF _ rfl (.tmp 1) 37 rfl .u8 bs rfl ?_; intro w2 A2 B2 s2)
    | (refine box_lawF _ rfl (.tmp 0) 37 rfl .u8 as_ rfl ?_; intro w1 A1 B1 s1))
  have FA : Hid (Byt w3 (.slice (some ⟨w.heap.size, 0, none⟩) 16 16) as_) := ((A1.below B2 s1).below B3 (by omega)).bytG AL.out.1.1 16 16 AL.out.1.2 (by omega) (by omega)
  have FB : Hid (Byt w3 (.slice (some ⟨w1.heap.size, 0, none⟩) 16 16) bs) := (A2.below B3 s2).bytG AL.out.2.1.1 16 16 AL.out.2.1.2 (by omega) (by omega)
  have FC : Hid (Byt w3 (.slice (some ⟨w2.heap.size, 0, none⟩) 16 16) cs) := A3.bytG AL.out.2.2.1 16 16 AL.out.2.2.2 (by omega) (by omega)
  have B03 : Hid (Below w.heap.size w w3) := (B1.trans (B2.mono (by omega))).trans (B3.mono (by omega))
  have o3 : w.heap.size ≤ w3.heap.size := by omega
  clear A1 A2 A3 B1 B2 B3 s1 s2 s3
  obtain ⟨ga, hga⟩ : ∃ g, g = w.heap.size := ⟨_, rfl⟩
  obtain ⟨gb_, hgb⟩ : ∃ g, g = w1.heap.size := ⟨_, rfl⟩
  obtain ⟨gc, hgc⟩ : ∃ g, g = w2.heap.size := ⟨_, rfl⟩
  rw [← hga] at FA
  rw [← hgb] at FB
  rw [← hgc] at FC
  rw [← hga, ← hgb, ← hgc]
  have BB : Hid (Below w3.heap.size w3 (World.drew w3)) := (Below.refl _ _).drew
  refine wp_region_any (by kernel_rfl) ?_
  change wpAny _ _ _ _ _ _ _ (World.drew _)
  refine take_lawG 0 (some 10) (.slice (some ⟨gb_, 0, none⟩) 16 16) rfl rfl (by kernel_rfl) (by kernel_rfl) (by kernel_rfl) (fun _ _ _ h => h) (Or.inl ⟨by rfl, fun w' => by exact exec_all _ 37 rfl _ 0 16 ua_a16 la_a16 ia_a16 rfl w'⟩) ?_
  simp only [Act.put, List.setIfInBounds_toArray, List.set_cons_zero, List.set_cons_succ]
  refine take_lawG 1 (some 11) (.slice (some ⟨gc, 0, none⟩) 16 16) rfl rfl (by kernel_rfl) (by kernel_rfl) (by kernel_rfl) (fun _ _ _ h => h) (Or.inl ⟨by rfl, fun w' => by exact exec_all _ 37 rfl _ 0 16 ua_a16 la_a16 ia_a16 rfl w'⟩) ?_
  simp only [Act.put, List.setIfInBounds_toArray, List.set_cons_zero, List.set_cons_succ]
  refine wpAny_ready (rs := [2]) (by kernel_rfl) (by simp) ?_
  refine AllReady.cons rfl (fun K hK => ?_) AllReady.nil
  refine step_callW _ (by rfl) (some 12) rfl 17 #[.tmp 10, .tmp 11] #[22, 22] rfl (fun q w' => by rfl) #[.slice (some ⟨gb_, 0, none⟩) 16 16, .slice (some ⟨gc, 0, none⟩) 16 16] (by simp only [List.map_toArray, List.map_cons, List.map_nil]; rfl) _ (X1.out _ _ _ (FB.out.below BB.out) (FC.out.below BB.out)) ?_
  rintro vs w4 ⟨y4, B4⟩
  have S4 : Hid (Byt w4 vs ss) := y4
  have BB : Hid (Below w3.heap.size w3 w4) := BB.out.trans (B4.mono BB.out.size)
  clear y4 B4
  refine hK _ _ ?_
  simp only [Act.put, List.setIfInBounds_toArray, List.set_cons_zero, List.set_cons_succ]
  clear hK K
  refine wpAny_ready (rs := [3]) (by kernel_rfl) (by simp) ?_
  refine AllReady.cons rfl (fun K hK => ?_) AllReady.nil
  refine step_movG _ rfl (some 7) rfl (.tmp 12) rfl (vs) rfl (hK _ _ ?_)
  simp only [Act.put, List.setIfInBounds_toArray, List.set_cons_zero, List.set_cons_succ]
  clear hK K
  refine wpAny_done (by kernel_rfl) ?_ _
  go_wp2
  refine wp_region_any (by kernel_rfl) ?_
  change wpAny _ _ _ _ _ _ _ (World.drew _)
  have BB : Hid (Below w3.heap.size w3 (World.drew w4)) := BB.out.drew
  have S5 : Hid (Byt (World.drew w4) vs ss) := S4.out
  refine take_lawG 0 (some 13) (.slice (some ⟨ga, 0, none⟩) 16 16) rfl rfl (by kernel_rfl) (by kernel_rfl) (by kernel_rfl) (fun _ _ _ h => h) (Or.inl ⟨by rfl, fun w' => by exact exec_all _ 37 rfl _ 0 16 ua_a16 la_a16 ia_a16 rfl w'⟩) ?_
  simp only [Act.put, List.setIfInBounds_toArray, List.set_cons_zero, List.set_cons_succ]
  refine take_lawG 1 (some 14) (.slice (some ⟨gb_, 0, none⟩) 16 16) rfl rfl (by kernel_rfl) (by kernel_rfl) (by kernel_rfl) (fun _ _ _ h => h) (Or.inl ⟨by rfl, fun w' => by exact exec_all _ 37 rfl _ 0 16 ua_a16 la_a16 ia_a16 rfl w'⟩) ?_
  simp only [Act.put, List.setIfInBounds_toArray, List.set_cons_zero, List.set_cons_succ]
  refine wpAny_ready (rs := [2]) (by kernel_rfl) (by simp) ?_
  refine AllReady.cons rfl (fun K hK => ?_) AllReady.nil
  refine step_callW _ (by rfl) (some 15) rfl 18 #[.tmp 13, .tmp 14] #[22, 22] rfl (fun q w' => by rfl) #[.slice (some ⟨ga, 0, none⟩) 16 16, .slice (some ⟨gb_, 0, none⟩) 16 16] (by simp only [List.map_toArray, List.map_cons, List.map_nil]; rfl) _ (M1.out _ _ _ (FA.out.below BB.out) (FB.out.below BB.out)) ?_
  rintro _ w5 ⟨gx, rfl, y5, B5⟩
  have X5 : Hid (Byt w5 (.slice (some ⟨gx, 0, none⟩) 16 16) ab) := y5
  have S6 : Hid (Byt w5 vs ss) := S5.out.below B5
  have BB : Hid (Below w3.heap.size w3 w5) := BB.out.trans (B5.mono BB.out.size)
  clear y5 B5
  refine hK _ _ ?_
  simp only [Act.put, List.setIfInBounds_toArray, List.set_cons_zero, List.set_cons_succ]
  clear hK K
  refine wpAny_ready (rs := [3]) (by kernel_rfl) (by simp) ?_
  refine AllReady.cons rfl (fun K hK => ?_) AllReady.nil
  refine step_movG _ rfl (some 8) rfl (.tmp 15) rfl (.slice (some ⟨gx, 0, none⟩) 16 16) rfl (hK _ _ ?_)
  simp only [Act.put, List.setIfInBounds_toArray, List.set_cons_zero, List.set_cons_succ]
  clear hK K
  refine wpAny_done (by kernel_rfl) ?_ _
  go_wp2
  refine wp_region_any (by kernel_rfl) ?_
  change wpAny _ _ _ _ _ _ _ (World.drew _)
  have BB : Hid (Below w3.heap.size w3 (World.drew w5)) := BB.out.drew
  have X6 : Hid (Byt (World.drew w5) (.slice (some ⟨gx, 0, none⟩) 16 16) ab) := X5.out
  have S7 : Hid (Byt (World.drew w5) vs ss) := S6.out
  refine take_lawG 0 (some 16) (.slice (some ⟨ga, 0, none⟩) 16 16) rfl rfl (by kernel_rfl) (by kernel_rfl) (by kernel_rfl) (fun _ _ _ h => h) (Or.inl ⟨by rfl, fun w' => by exact exec_all _ 37 rfl _ 0 16 ua_a16 la_a16 ia_a16 rfl w'⟩) ?_
  simp only [Act.put, List.setIfInBounds_toArray, List.set_cons_zero, List.set_cons_succ]
  refine take_lawG 1 (some 17) (.slice (some ⟨gc, 0, none⟩) 16 16) rfl rfl (by kernel_rfl) (by kernel_rfl) (by kernel_rfl) (fun _ _ _ h => h) (Or.inl ⟨by rfl, fun w' => by exact exec_all _ 37 rfl _ 0 16 ua_a16 la_a16 ia_a16 rfl w'⟩) ?_
  simp only [Act.put, List.setIfInBounds_toArray, List.set_cons_zero, List.set_cons_succ]
  refine wpAny_ready (rs := [2]) (by kernel_rfl) (by simp) ?_
  refine AllReady.cons rfl (fun K hK => ?_) AllReady.nil
  refine step_callW _ (by rfl) (some 18) rfl 18 #[.tmp 16, .tmp 17] #[22, 22] rfl (fun q w' => by rfl) #[.slice (some ⟨ga, 0, none⟩) 16 16, .slice (some ⟨gc, 0, none⟩) 16 16] (by simp only [List.map_toArray, List.map_cons, List.map_nil]; rfl) _ (M2.out _ _ _ (FA.out.below BB.out) (FC.out.below BB.out)) ?_
  rintro _ w6 ⟨gy, rfl, y6, B6⟩
  have Y6 : Hid (Byt w6 (.slice (some ⟨gy, 0, none⟩) 16 16) ac) := y6
  have X7 : Hid (Byt w6 (.slice (some ⟨gx, 0, none⟩) 16 16) ab) := X6.out.below B6
  have S8 : Hid (Byt w6 vs ss) := S7.out.below B6
  have BB : Hid (Below w3.heap.size w3 w6) := BB.out.trans (B6.mono BB.out.size)
  clear y6 B6
  refine hK _ _ ?_
  simp only [Act.put, List.setIfInBounds_toArray, List.set_cons_zero, List.set_cons_succ]
  clear hK K
  refine wpAny_ready (rs := [3]) (by kernel_rfl) (by simp) ?_
  refine AllReady.cons rfl (fun K hK => ?_) AllReady.nil
  refine step_movG _ rfl (some 9) rfl (.tmp 18) rfl (.slice (some ⟨gy, 0, none⟩) 16 16) rfl (hK _ _ ?_)
  simp only [Act.put, List.setIfInBounds_toArray, List.set_cons_zero, List.set_cons_succ]
  clear hK K
  refine wpAny_done (by kernel_rfl) ?_ _
  go_wp2
  refine wp_region_any (by kernel_rfl) ?_
  change wpAny _ _ _ _ _ _ _ (World.drew _)
  have BA : Hid (Below w6.heap.size w6 (World.drew w6)) := (Below.refl _ _).drew
  have GA : Hid (Byt w6 (.slice (some ⟨ga, 0, none⟩) 16 16) as_) := FA.out.below BB.out
  have GB : Hid (Byt w6 (.slice (some ⟨gb_, 0, none⟩) 16 16) bs) := FB.out.below BB.out
  have GC : Hid (Byt w6 (.slice (some ⟨gc, 0, none⟩) 16 16) cs) := FC.out.below BB.out
  refine take_lawG 0 (some 27) (.slice (some ⟨gx, 0, none⟩) 16 16) rfl rfl (by kernel_rfl) (by kernel_rfl) (by kernel_rfl) (fun _ _ _ h => h) (Or.inl ⟨by rfl, fun w' => by rfl⟩) ?_
  simp only [Act.put, List.setIfInBounds_toArray, List.set_cons_zero, List.set_cons_succ]
  refine take_lawG 1 (some 28) (.slice (some ⟨gb_, 0, none⟩) 16 16) rfl rfl (by kernel_rfl) (by kernel_rfl) (by kernel_rfl) (fun _ _ _ h => h) (Or.inl ⟨by rfl, fun w' => by exact exec_all _ 37 rfl _ 0 16 ua_a16 la_a16 ia_a16 rfl w'⟩) ?_
  simp only [Act.put, List.setIfInBounds_toArray, List.set_cons_zero, List.set_cons_succ]
  refine take_lawG 2 (some 29) (.slice (some ⟨ga, 0, none⟩) 16 16) rfl rfl (by kernel_rfl) (by kernel_rfl) (by kernel_rfl) (fun _ _ _ h => h) (Or.inl ⟨by rfl, fun w' => by exact exec_all _ 37 rfl _ 0 16 ua_a16 la_a16 ia_a16 rfl w'⟩) ?_
  simp only [Act.put, List.setIfInBounds_toArray, List.set_cons_zero, List.set_cons_succ]
  refine wpAny_ready (rs := [3]) (by kernel_rfl) (by simp) ?_
  refine AllReady.cons rfl (fun K hK => ?_) AllReady.nil
  refine step_callW _ (by rfl) (some 30) rfl 18 #[.tmp 28, .tmp 29] #[22, 22] rfl (fun q w' => by rfl) #[.slice (some ⟨gb_, 0, none⟩) 16 16, .slice (some ⟨ga, 0, none⟩) 16 16] (by simp only [List.map_toArray, List.map_cons, List.map_nil]; rfl) _ (M3.out _ _ _ (GB.out.below BA.out) (GA.out.below BA.out)) ?_
  rintro _ w7 ⟨g7, rfl, y7, B7⟩
  have Y7 : Hid (Byt w7 (.slice (some ⟨g7, 0, none⟩) 16 16) ab) := y7
  have BA : Hid (Below w6.heap.size w6 w7) := BA.out.trans (B7.mono BA.out.size)
  clear y7 B7
  refine hK _ _ ?_
  simp only [Act.put, List.setIfInBounds_toArray, List.set_cons_zero, List.set_cons_succ]
  clear hK K
  refine wpAny_ready (rs := [4]) (by kernel_rfl) (by simp) ?_
  refine AllReady.cons rfl (fun K hK => ?_) AllReady.nil
  refine step_callW _ (by rfl) (some 31) rfl 11 #[.tmp 27, .tmp 30] #[22, 22] rfl (fun q w' => by rfl) #[.slice (some ⟨gx, 0, none⟩) 16 16, .slice (some ⟨g7, 0, none⟩) 16 16] (by simp only [List.map_toArray, List.map_cons, List.map_nil]; rfl) _ (SM.out _ _ _ ab (X7.out.below BA.out) Y7.out) ?_
  rintro _ w8 ⟨rfl, B8⟩
  have BA : Hid (Below w6.heap.size w6 w8) := BA.out.trans (B8.mono BA.out.size)
  clear B8
  refine hK _ _ ?_
  simp only [Act.put, List.setIfInBounds_toArray, List.set_cons_zero, List.set_cons_succ]
  clear hK K
  refine take_lawG 5 (some 32) (.bool true) rfl rfl (by kernel_rfl) (by kernel_rfl) (by kernel_rfl) (fun _ _ _ h => h) (Or.inl ⟨by rfl, fun w' => by rfl⟩) ?_
  simp only [Act.put, List.setIfInBounds_toArray, List.set_cons_zero, List.set_cons_succ]
  refine take_lawG 6 (some 33) (.slice (some ⟨gx, 0, none⟩) 16 16) rfl rfl (by kernel_rfl) (by kernel_rfl) (by kernel_rfl) (fun _ _ _ h => h) (Or.inl ⟨by rfl, fun w' => by rfl⟩) ?_
  simp only [Act.put, List.setIfInBounds_toArray, List.set_cons_zero, List.set_cons_succ]
  refine take_lawG 7 (some 34) (.slice (some ⟨gc, 0, none⟩) 16 16) rfl rfl (by kernel_rfl) (by kernel_rfl) (by kernel_rfl) (fun _ _ _ h => h) (Or.inl ⟨by rfl, fun w' => by exact exec_all _ 37 rfl _ 0 16 ua_a16 la_a16 ia_a16 rfl w'⟩) ?_
  simp only [Act.put, List.setIfInBounds_toArray, List.set_cons_zero, List.set_cons_succ]
  refine take_lawG 9 (some 36) (.slice (some ⟨ga, 0, none⟩) 16 16) rfl rfl (by kernel_rfl) (by kernel_rfl) (by kernel_rfl) (fun _ _ _ h => h) (Or.inl ⟨by rfl, fun w' => by exact exec_all _ 37 rfl _ 0 16 ua_a16 la_a16 ia_a16 rfl w'⟩) ?_
  simp only [Act.put, List.setIfInBounds_toArray, List.set_cons_zero, List.set_cons_succ]
  refine take_lawG 10 (some 37) (.slice (some ⟨gb_, 0, none⟩) 16 16) rfl rfl (by kernel_rfl) (by kernel_rfl) (by kernel_rfl) (fun _ _ _ h => h) (Or.inl ⟨by rfl, fun w' => by exact exec_all _ 37 rfl _ 0 16 ua_a16 la_a16 ia_a16 rfl w'⟩) ?_
  simp only [Act.put, List.setIfInBounds_toArray, List.set_cons_zero, List.set_cons_succ]
  refine take_lawG 11 (some 38) (.slice (some ⟨gc, 0, none⟩) 16 16) rfl rfl (by kernel_rfl) (by kernel_rfl) (by kernel_rfl) (fun _ _ _ h => h) (Or.inl ⟨by rfl, fun w' => by exact exec_all _ 37 rfl _ 0 16 ua_a16 la_a16 ia_a16 rfl w'⟩) ?_
  simp only [Act.put, List.setIfInBounds_toArray, List.set_cons_zero, List.set_cons_succ]
  refine wpAny_ready (rs := [8]) (by kernel_rfl) (by simp) ?_
  refine AllReady.cons rfl (fun K hK => ?_) AllReady.nil
  refine step_callW _ (by rfl) (some 35) rfl 18 #[.tmp 33, .tmp 34] #[22, 22] rfl (fun q w' => by rfl) #[.slice (some ⟨gx, 0, none⟩) 16 16, .slice (some ⟨gc, 0, none⟩) 16 16] (by simp only [List.map_toArray, List.map_cons, List.map_nil]; rfl) _ (M4.out _ _ _ (X7.out.below BA.out) (GC.out.below BA.out)) ?_
  rintro _ w9 ⟨g9, rfl, y9, B9⟩
  have Y9 : Hid (Byt w9 (.slice (some ⟨g9, 0, none⟩) 16 16) tt) := y9
  have BA : Hid (Below w6.heap.size w6 w9) := BA.out.trans (B9.mono BA.out.size)
  clear y9 B9
  refine hK _ _ ?_
  simp only [Act.put, List.setIfInBounds_toArray, List.set_cons_zero, List.set_cons_succ]
  clear hK K
  refine wpAny_ready (rs := [12]) (by kernel_rfl) (by simp) ?_
  refine AllReady.cons rfl (fun K hK => ?_) AllReady.nil
  refine step_callW _ (by rfl) (some 39) rfl 18 #[.tmp 37, .tmp 38] #[22, 22] rfl (fun q w' => by rfl) #[.slice (some ⟨gb_, 0, none⟩) 16 16, .slice (some ⟨gc, 0, none⟩) 16 16] (by simp only [List.map_toArray, List.map_cons, List.map_nil]; rfl) _ (M5.out _ _ _ (GB.out.below BA.out) (GC.out.below BA.out)) ?_
  rintro _ w10 ⟨g10, rfl, y10, B10⟩
  have Y10 : Hid (Byt w10 (.slice (some ⟨g10, 0, none⟩) 16 16) bc) := y10
  have Y9 : Hid (Byt w10 (.slice (some ⟨g9, 0, none⟩) 16 16) tt) := Y9.out.below B10
  have BA : Hid (Below w6.heap.size w6 w10) := BA.out.trans (B10.mono BA.out.size)
  clear y10 B10
  refine hK _ _ ?_
  simp only [Act.put, List.setIfInBounds_toArray, List.set_cons_zero, List.set_cons_succ]
  clear hK K
  refine wpAny_ready (rs := [13]) (by kernel_rfl) (by simp) ?_
  refine AllReady.cons rfl (fun K hK => ?_) AllReady.nil
  refine step_callW _ (by rfl) (some 40) rfl 18 #[.tmp 36, .tmp 39] #[22, 22] rfl (fun q w' => by rfl) #[.slice (some ⟨ga, 0, none⟩) 16 16, .slice (some ⟨g10, 0, none⟩) 16 16] (by simp only [List.map_toArray, List.map_cons, List.map_nil]; rfl) _ (M6.out _ _ _ (GA.out.below BA.out) Y10.out) ?_
  rintro _ w11 ⟨g11, rfl, y11, B11⟩
  have Y11 : Hid (Byt w11 (.slice (some ⟨g11, 0, none⟩) 16 16) tt) := y11
  have Y9 : Hid (Byt w11 (.slice (some ⟨g9, 0, none⟩) 16 16) tt) := Y9.out.below B11
  have BA : Hid (Below w6.heap.size w6 w11) := BA.out.trans (B11.mono BA.out.size)
  clear y11 B11
  refine hK _ _ ?_
  simp only [Act.put, List.setIfInBounds_toArray, List.set_cons_zero, List.set_cons_succ]
  clear hK K
  refine wpAny_ready (rs := [14]) (by kernel_rfl) (by simp) ?_
  refine AllReady.cons rfl (fun K hK => ?_) AllReady.nil
  refine step_callW _ (by rfl) (some 41) rfl 11 #[.tmp 35, .tmp 40] #[22, 22] rfl (fun q w' => by rfl) #[.slice (some ⟨g9, 0, none⟩) 16 16, .slice (some ⟨g11, 0, none⟩) 16 16] (by simp only [List.map_toArray, List.map_cons, List.map_nil]; rfl) _ (SM.out _ _ _ tt Y9.out Y11.out) ?_
  rintro _ w12 ⟨rfl, B12⟩
  have BA : Hid (Below w6.heap.size w6 w12) := BA.out.trans (B12.mono BA.out.size)
  clear B12
  refine hK _ _ ?_
  simp only [Act.put, List.setIfInBounds_toArray, List.set_cons_zero, List.set_cons_succ]
  clear hK K
  refine take_lawG 15 (some 42) (.bool true) rfl rfl (by kernel_rfl) (by kernel_rfl) (by kernel_rfl) (fun _ _ _ h => h) (Or.inl ⟨by rfl, fun w' => by rfl⟩) ?_
  simp only [Act.put, List.setIfInBounds_toArray, List.set_cons_zero, List.set_cons_succ]
  refine take_lawG 16 (some 43) (.bool true) rfl rfl (by kernel_rfl) (by kernel_rfl) (by kernel_rfl) (fun _ _ _ h => h) (Or.inl ⟨by rfl, fun w' => by rfl⟩) ?_
  simp only [Act.put, List.setIfInBounds_toArray, List.set_cons_zero, List.set_cons_succ]
  refine take_lawG 17 (some 44) (.slice (some ⟨ga, 0, none⟩) 16 16) rfl rfl (by kernel_rfl) (by kernel_rfl) (by kernel_rfl) (fun _ _ _ h => h) (Or.inl ⟨by rfl, fun w' => by exact exec_all _ 37 rfl _ 0 16 ua_a16 la_a16 ia_a16 rfl w'⟩) ?_
  simp only [Act.put, List.setIfInBounds_toArray, List.set_cons_zero, List.set_cons_succ]
  refine take_lawG 18 (some 45) (vs) rfl rfl (by kernel_rfl) (by kernel_rfl) (by kernel_rfl) (fun _ _ _ h => h) (Or.inl ⟨by rfl, fun w' => by rfl⟩) ?_
  simp only [Act.put, List.setIfInBounds_toArray, List.set_cons_zero, List.set_cons_succ]
  refine take_lawG 20 (some 47) (.slice (some ⟨gx, 0, none⟩) 16 16) rfl rfl (by kernel_rfl) (by kernel_rfl) (by kernel_rfl) (fun _ _ _ h => h) (Or.inl ⟨by rfl, fun w' => by rfl⟩) ?_
  simp only [Act.put, List.setIfInBounds_toArray, List.set_cons_zero, List.set_cons_succ]
  refine take_lawG 21 (some 48) (.slice (some ⟨gy, 0, none⟩) 16 16) rfl rfl (by kernel_rfl) (by kernel_rfl) (by kernel_rfl) (fun _ _ _ h => h) (Or.inl ⟨by rfl, fun w' => by rfl⟩) ?_
  simp only [Act.put, List.setIfInBounds_toArray, List.set_cons_zero, List.set_cons_succ]
  refine wpAny_ready (rs := [19]) (by kernel_rfl) (by simp) ?_
  refine AllReady.cons rfl (fun K hK => ?_) AllReady.nil
  refine step_callW _ (by rfl) (some 46) rfl 18 #[.tmp 44, .tmp 45] #[22, 22] rfl (fun q w' => by rfl) #[.slice (some ⟨ga, 0, none⟩) 16 16, vs] (by simp only [List.map_toArray, List.map_cons, List.map_nil]; rfl) _ (M7.out _ _ _ (GA.out.below BA.out) (S8.out.below BA.out)) ?_
  rintro _ w13 ⟨g13, rfl, y13, B13⟩
  have Y13 : Hid (Byt w13 (.slice (some ⟨g13, 0, none⟩) 16 16) dd) := y13
  have BA : Hid (Below w6.heap.size w6 w13) := BA.out.trans (B13.mono BA.out.size)
  clear y13 B13
  refine hK _ _ ?_
  simp only [Act.put, List.setIfInBounds_toArray, List.set_cons_zero, List.set_cons_succ]
  clear hK K
  refine wpAny_ready (rs := [22]) (by kernel_rfl) (by simp) ?_
  refine AllReady.cons rfl (fun K hK => ?_) AllReady.nil
  refine step_callW _ (by rfl) (some 49) rfl 17 #[.tmp 47, .tmp 48] #[22, 22] rfl (fun q w' => by rfl) #[.slice (some ⟨gx, 0, none⟩) 16 16, .slice (some ⟨gy, 0, none⟩) 16 16] (by simp only [List.map_toArray, List.map_cons, List.map_nil]; rfl) _ (X2.out _ _ _ (X7.out.below BA.out) (Y6.out.below BA.out)) ?_
  rintro v14 w14 ⟨y14, B14⟩
  have Y14 : Hid (Byt w14 v14 dd) := y14
  have Y13 : Hid (Byt w14 (.slice (some ⟨g13, 0, none⟩) 16 16) dd) := Y13.out.below B14
  have BA : Hid (Below w6.heap.size w6 w14) := BA.out.trans (B14.mono BA.out.size)
  clear y14 B14
  refine hK _ _ ?_
  simp only [Act.put, List.setIfInBounds_toArray, List.set_cons_zero, List.set_cons_succ]
  clear hK K
  refine wpAny_ready (rs := [23]) (by kernel_rfl) (by simp) ?_
  refine AllReady.cons rfl (fun K hK => ?_) AllReady.nil
  refine step_callW _ (by rfl) (some 50) rfl 11 #[.tmp 46, .tmp 49] #[22, 22] rfl (fun q w' => by rfl) #[.slice (some ⟨g13, 0, none⟩) 16 16, v14] (by simp only [List.map_toArray, List.map_cons, List.map_nil]; rfl) _ (SM.out _ _ _ dd Y13.out Y14.out) ?_
  rintro _ w15 ⟨rfl, B15⟩
  have BA : Hid (Below w6.heap.size w6 w15) := BA.out.trans (B15.mono BA.out.size)
  clear B15
  refine hK _ _ ?_
  simp only [Act.put, List.setIfInBounds_toArray, List.set_cons_zero, List.set_cons_succ]
  clear hK K
  refine take_lawG 24 (some 51) (.bool true) rfl rfl (by kernel_rfl) (by kernel_rfl) (by kernel_rfl) (fun _ _ _ h => h) (Or.inl ⟨by rfl, fun w' => by rfl⟩) ?_
  simp only [Act.put, List.setIfInBounds_toArray, List.set_cons_zero, List.set_cons_succ]
  refine take_lawG 25 (some 52) (.bool true) rfl rfl (by kernel_rfl) (by kernel_rfl) (by kernel_rfl) (fun _ _ _ h => h) (Or.inl ⟨by rfl, fun w' => by rfl⟩) ?_
  simp only [Act.put, List.setIfInBounds_toArray, List.set_cons_zero, List.set_cons_succ]
  refine wpAny_ready (rs := [26]) (by kernel_rfl) (by simp) ?_
  refine AllReady.cons rfl (fun K hK => ?_) AllReady.nil
  refine step_callW _ (by rfl) (some 53) rfl 8 #[] #[] rfl (fun q w' => by rfl) #[] (by simp only [List.map_toArray, List.map_nil]) _ (AW.out _) ?_
  rintro _ w16 ⟨rfl, B16⟩
  have BA : Hid (Below w6.heap.size w6 w16) := BA.out.trans (B16.mono BA.out.size)
  clear B16
  refine hK _ _ ?_
  simp only [Act.put, List.setIfInBounds_toArray, List.set_cons_zero, List.set_cons_succ]
  clear hK K
  refine take_lawG 27 (some 54) (.bool true) rfl rfl (by kernel_rfl) (by kernel_rfl) (by kernel_rfl) (fun _ _ _ h => h) (Or.inl ⟨by rfl, fun w' => by rfl⟩) ?_
  simp only [Act.put, List.setIfInBounds_toArray, List.set_cons_zero, List.set_cons_succ]
  refine wpAny_ready (rs := [28]) (by kernel_rfl) (by simp) ?_
  refine AllReady.cons rfl (fun K hK => ?_) AllReady.nil
  refine step_movG _ rfl (some 6) rfl (.tmp 54) rfl (.bool true) rfl (hK _ _ ?_)
  simp only [Act.put, List.setIfInBounds_toArray, List.set_cons_zero, List.set_cons_succ]
  clear hK K
  refine wpAny_done (by kernel_rfl) ?_ _
  go_wp2
  go_ret
  exact ⟨rfl, (B03.out.trans (BB.out.mono o3)).trans (BA.out.mono (Nat.le_trans o3 BB.out.size))⟩

theorem params : ∀ t ∈ Try.f6.params.toList, Try.prog.readableRec t = true ∧ t < Try.prog.types.size := by
  rw [Try.params6]
  intro t ht
  simp at ht
  subst ht
  exact ⟨by kernel_rfl, of_decide_eq_true (by kernel_rfl)⟩

theorem contract (H : Type) (enc : TypeId × Value → H) (W : World) (base : Nat) (args : Array Value) (ds gs : List (DataW H)) (before : List MemPlace)
    (hval : ∀ (j : Nat) t v, Try.f6.params[j]? = some t → args[j]? = some v → Value.okWide Try.prog W .any base t v)
    (hW : DataW.Whole enc Try.prog Try.f6.params.toList Rows.twiceRulesSpec.vars false W args.toList ds gs before) :
    Calls Try.prog 6 args W fun e W' => ∃ v, e = .returned v ∧ Rows.twiceRulesSpec.post enc Try.prog Try.f6 false true false false W args v W' := by
  have hW' := hW
  obtain ⟨p, q, hA0, hV, rfl, hfz, hnd⟩ := hW
  have hA : DataW.TrodAll enc Try.prog W 0 (fun _ => true) true Try.f6.params.toList args.toList ds p := hA0
  rw [Try.params6] at hA hval
  obtain ⟨v0, v1, v2, d0, d1, d2, p0, p1, p2, rfl, rfl, rfl, h0, h1, h2⟩ := trodAll_three hA
  obtain ⟨rfl, rfl⟩ := trodVars_none hV
  obtain ⟨l0, rfl, n0, b0⟩ := arr_open Try.underlying37 cells_arr16 (hval 0 37 v0 rfl rfl) h0
  obtain ⟨l1, rfl, n1, b1⟩ := arr_open Try.underlying37 cells_arr16 (hval 1 37 v1 rfl rfl) h1
  obtain ⟨l2, rfl, n2, b2⟩ := arr_open Try.underlying37 cells_arr16 (hval 2 37 v2 rfl rfl) h2
  clear hA0
  refine (walk l0 l1 l2 W n0 b0 n1 b1 n2 b2).mono fun e W' ⟨he, hg⟩ => ?_
  subst he
  exact ⟨_, rfl, post_law rfl (by kernel_rfl) params rfl rfl rfl hW' hg⟩

theorem laid_met (os : Os) : laidMet Try.prog Rows.twiceRulesRow.laid ((World.holding Try.prog os ⟨#[], #[], []⟩).forCall (fun _ _ => 0) ⟨#[], #[.agg #[.int .u8 0, .int .u8 0, .int .u8 0, .int .u8 0, .int .u8 0, .int .u8 0, .int .u8 0, .int .u8 0, .int .u8 0, .int .u8 0, .int .u8 0, .int .u8 0, .int .u8 0, .int .u8 0, .int .u8 0, .int .u8 0], .agg #[.int .u8 0, .int .u8 0, .int .u8 0, .int .u8 0, .int .u8 0, .int .u8 0, .int .u8 0, .int .u8 0, .int .u8 0, .int .u8 0, .int .u8 0, .int .u8 0, .int .u8 0, .int .u8 0, .int .u8 0, .int .u8 0], .agg #[.int .u8 0, .int .u8 0, .int .u8 0, .int .u8 0, .int .u8 0, .int .u8 0, .int .u8 0, .int .u8 0, .int .u8 0, .int .u8 0, .int .u8 0, .int .u8 0, .int .u8 0, .int .u8 0, .int .u8 0, .int .u8 0]], []⟩).memory :=
  laidMet_of_run' 8 (by kernel_rfl) (by kernel_rfl)
theorem reads (os : Os) {H : Type} (enc : TypeId × Value → H) : ∃ places, DataW.whole enc Try.prog ((World.holding Try.prog os ⟨#[], #[], []⟩).forCall (fun _ _ => 0) ⟨#[], #[.agg #[.int .u8 0, .int .u8 0, .int .u8 0, .int .u8 0, .int .u8 0, .int .u8 0, .int .u8 0, .int .u8 0, .int .u8 0, .int .u8 0, .int .u8 0, .int .u8 0, .int .u8 0, .int .u8 0, .int .u8 0, .int .u8 0], .agg #[.int .u8 0, .int .u8 0, .int .u8 0, .int .u8 0, .int .u8 0, .int .u8 0, .int .u8 0, .int .u8 0, .int .u8 0, .int .u8 0, .int .u8 0, .int .u8 0, .int .u8 0, .int .u8 0, .int .u8 0, .int .u8 0], .agg #[.int .u8 0, .int .u8 0, .int .u8 0, .int .u8 0, .int .u8 0, .int .u8 0, .int .u8 0, .int .u8 0, .int .u8 0, .int .u8 0, .int .u8 0, .int .u8 0, .int .u8 0, .int .u8 0, .int .u8 0, .int .u8 0]], []⟩).memory Try.f6.params.toList Rows.twiceRulesSpec.vars false #[Value.agg #[.int .u8 0, .int .u8 0, .int .u8 0, .int .u8 0, .int .u8 0, .int .u8 0, .int .u8 0, .int .u8 0, .int .u8 0, .int .u8 0, .int .u8 0, .int .u8 0, .int .u8 0, .int .u8 0, .int .u8 0, .int .u8 0], Value.agg #[.int .u8 0, .int .u8 0, .int .u8 0, .int .u8 0, .int .u8 0, .int .u8 0, .int .u8 0, .int .u8 0, .int .u8 0, .int .u8 0, .int .u8 0, .int .u8 0, .int .u8 0, .int .u8 0, .int .u8 0, .int .u8 0], Value.agg #[.int .u8 0, .int .u8 0, .int .u8 0, .int .u8 0, .int .u8 0, .int .u8 0, .int .u8 0, .int .u8 0, .int .u8 0, .int .u8 0, .int .u8 0, .int .u8 0, .int .u8 0, .int .u8 0, .int .u8 0, .int .u8 0]].toList 8 = some ([.agg [.lit (.int .u8 0), .lit (.int .u8 0), .lit (.int .u8 0), .lit (.int .u8 0), .lit (.int .u8 0), .lit (.int .u8 0), .lit (.int .u8 0), .lit (.int .u8 0), .lit (.int .u8 0), .lit (.int .u8 0), .lit (.int .u8 0), .lit (.int .u8 0), .lit (.int .u8 0), .lit (.int .u8 0), .lit (.int .u8 0), .lit (.int .u8 0)], .agg [.lit (.int .u8 0), .lit (.int .u8 0), .lit (.int .u8 0), .lit (.int .u8 0), .lit (.int .u8 0), .lit (.int .u8 0), .lit (.int .u8 0), .lit (.int .u8 0), .lit (.int .u8 0), .lit (.int .u8 0), .lit (.int .u8 0), .lit (.int .u8 0), .lit (.int .u8 0), .lit (.int .u8 0), .lit (.int .u8 0), .lit (.int .u8 0)], .agg [.lit (.int .u8 0), .lit (.int .u8 0), .lit (.int .u8 0), .lit (.int .u8 0), .lit (.int .u8 0), .lit (.int .u8 0), .lit (.int .u8 0), .lit (.int .u8 0), .lit (.int .u8 0), .lit (.int .u8 0), .lit (.int .u8 0), .lit (.int .u8 0), .lit (.int .u8 0), .lit (.int .u8 0), .lit (.int .u8 0), .lit (.int .u8 0)]], [], places) :=
  ⟨[], by kernel_rfl⟩

set_option maxRecDepth 100000 in
theorem lifted (os : Os) (started : os.Started) (H : Type) (enc : TypeId × Value → H) (F : Stop.Interp) :
    ReturnsInHanded {} Try.checked os 6 .any ((OpenSpec.ofChange Rows.twiceRulesSpec).preRow enc Try.prog Try.f6 Rows.twiceRulesRow.domain false Rows.twiceRulesRow.laid) (((OpenSpec.ofChange Rows.twiceRulesSpec).at F).post enc Try.prog Try.f6 false true false false) := by
  obtain ⟨places, hx⟩ := reads os enc
  refine returnsInHanded_of_row (C := Try.checked) (s := OpenSpec.ofChange Rows.twiceRulesSpec) own started (by kernel_rfl) Try.func6
    (witness_row_at (enc := enc) (C := Try.checked) false (World.holding Try.prog os ⟨#[], #[], []⟩) #[.agg #[.int .u8 0, .int .u8 0, .int .u8 0, .int .u8 0, .int .u8 0, .int .u8 0, .int .u8 0, .int .u8 0, .int .u8 0, .int .u8 0, .int .u8 0, .int .u8 0, .int .u8 0, .int .u8 0, .int .u8 0, .int .u8 0], .agg #[.int .u8 0, .int .u8 0, .int .u8 0, .int .u8 0, .int .u8 0, .int .u8 0, .int .u8 0, .int .u8 0, .int .u8 0, .int .u8 0, .int .u8 0, .int .u8 0, .int .u8 0, .int .u8 0, .int .u8 0, .int .u8 0], .agg #[.int .u8 0, .int .u8 0, .int .u8 0, .int .u8 0, .int .u8 0, .int .u8 0, .int .u8 0, .int .u8 0, .int .u8 0, .int .u8 0, .int .u8 0, .int .u8 0, .int .u8 0, .int .u8 0, .int .u8 0, .int .u8 0]] rfl (by kernel_rfl) (by kernel_rfl) (by kernel_rfl)
      (OpenSpec.preRow_of_cond 8 hx (by kernel_rfl) (fun k hk => by cases hk) (by kernel_rfl) (laid_met os))) ?_
  intro W base args ds gs before hval hW _ _ _ _ _ _
  exact contract H enc W base args ds gs before hval hW

theorem said : Rows.TwiceRulesSaid :=
  OpenClaim.holds_of_cond 6 Try.f6 rfl rfl rfl rfl rfl rfl rfl ⟨rfl, rfl, rfl, rfl, rfl⟩ rfl rfl rfl rfl rfl (by kernel_rfl) Try.func6 (by kernel_rfl)
    (of_decide_eq_true (by kernel_rfl)) (by unfold Func.isWrapper; first | (rw [if_pos (by decide +kernel)]; kernel_rfl) | (rw [if_neg (by decide +kernel)]; exact ⟨rfl, rfl⟩))
    (fun os started H enc _ F => by rw [OpenClaim.pre_eq_preRow]; exact lifted os started H enc F)
end Go.Proofs.Ytjojimffolagmaa.twiceRules

namespace Go.Proofs.Ytjojimffolagmaa
theorem twiceRules_said : Rows.TwiceRulesSaid := twiceRules.said
#print axioms twiceRules_said
end Go.Proofs.Ytjojimffolagmaa
