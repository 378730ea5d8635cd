/- Texts put together (a claim holds few files). No claim of its own. -/
import Derived.Test.YtmbfccclghnaeaaDoorPackL
import Derived.Deep.DeepCutAuto
/- What sha's compress answers: the state, compressed with the block. No claim of its own. -/
namespace Go.Proofs.YtmbfccclghnaeaaDoor.mc
open Go.RowKit
set_option maxRecDepth 20000

/-- a round's two sums -/
def tt1 (s : List Int) (k x : Int) : Int := ((((gb s 7 + bg1 (gb s 4)) % 4294967296 + chs (gb s 4) (gb s 5) (gb s 6)) % 4294967296 + k) % 4294967296 + x) % 4294967296
def tt2 (s : List Int) : Int := (bg0 (gb s 0) + maj (gb s 0) (gb s 1) (gb s 2)) % 4294967296
/-- a round -/
def rnd (s : List Int) (k x : Int) : List Int := [(tt1 s k x + tt2 s) % 4294967296, gb s 0, gb s 1, gb s 2, (gb s 3 + tt1 s k x) % 4294967296, gb s 4, gb s 5, gb s 6]
/-- t rounds -/
def rnds (st ws : List Int) : Nat → List Int
  | 0 => st
  | t + 1 => rnd (rnds st ws t) (gb kc t) (gb ws t)
/-- the two states, added -/
def addl (st r : List Int) : List Int := [(gb st 0 + gb r 0) % 4294967296, (gb st 1 + gb r 1) % 4294967296, (gb st 2 + gb r 2) % 4294967296, (gb st 3 + gb r 3) % 4294967296, (gb st 4 + gb r 4) % 4294967296, (gb st 5 + gb r 5) % 4294967296, (gb st 6 + gb r 6) % 4294967296, (gb st 7 + gb r 7) % 4294967296]
/-- the state, compressed with the block -/
def comp (st bs : List Int) : List Int := addl st (rnds st (sched bs 64) 64)
theorem addl_all (a b : List Int) : AllW (addl a b) := allW_mem fun x hx => by
  simp only [addl, List.mem_cons, List.not_mem_nil, or_false] at hx
  rcases hx with rfl | rfl | rfl | rfl | rfl | rfl | rfl | rfl <;> exact mod_w32 _
theorem comp_all (st bs : List Int) : AllW (comp st bs) := addl_all _ _
theorem comp_len (st bs : List Int) : (comp st bs).length = 8 := rfl
theorem rnd_all (s : List Int) (k x : Int) (h : AllW s) : AllW (rnd s k x) := allW_mem fun y hy => by
  simp only [rnd, List.mem_cons, List.not_mem_nil, or_false] at hy
  rcases hy with rfl | rfl | rfl | rfl | rfl | rfl | rfl | rfl
  · exact mod_w32 _
  · exact h _
  · exact h _
  · exact h _
  · exact mod_w32 _
  · exact h _
  · exact h _
  · exact h _
theorem rnds_all (st ws : List Int) (h : AllW st) (t : Nat) : AllW (rnds st ws t) := by
  induction t with
  | zero => exact h
  | succ t ih => exact rnd_all _ _ _ ih
theorem set8 (st : List Int) (h : st.length = 8) (x0 x1 x2 x3 x4 x5 x6 x7 : Int) : (((((((st.set 0 x0).set 1 x1).set 2 x2).set 3 x3).set 4 x4).set 5 x5).set 6 x6).set 7 x7 = [x0, x1, x2, x3, x4, x5, x6, x7] := by
  match st, h with
  | [_, _, _, _, _, _, _, _], _ => rfl
theorem below_drewN {B : Nat} {w w' : World} (h : Below B w w') (n : Nat) : Below B w (w'.drewN n) := ⟨h.os, h.tape, h.output, h.size, h.block⟩
theorem sum5 (a b c d e : Int) : (a + b + c + d + e) % 4294967296 = ((((a + b) % 4294967296 + c) % 4294967296 + d) % 4294967296 + e) % 4294967296 := by omega
theorem kc_len : kc.length = 64 := rfl

section
variable {ops : Array Oper} {o : Oper} {a : Act} {Q : Exit → Act → World → Prop} {K : Act → World → Prop} {E : Prop}
theorem step_new (w : World) (hg : o.guard = none) (d : Option Tmp) (hd : o.dst = d) (t : TypeId) (hop : o.op = Op.alloc t) (k : IntKind) (xs : List Int) (hz : (Tryd.prog.info? t).map (fun i => (i.zero, i.size)) = some (some (.agg (ints k xs)), xs.length))
    (hK : K (a.put d (.pointer (some ⟨w.heap.size, 0, none⟩))) (w.alloc (.cells (ints k xs) t))) :
    if Region.wanted o (yielded ops a.tmps) = true then Oper.wp Tryd.prog o a w K Q else E := by
  have hw : Region.wanted o (yielded ops a.tmps) = true := by simp [Region.wanted, hg]
  rw [if_pos hw]
  have hz' := (zero_of_info hz).1
  subst hd
  unfold Oper.wp
  simp [execOp, hop, Instr.alloc, hz', newVar, newRow, Value.cells, Result.andThen]
  exact hK
theorem step_store (w : World) (hg : o.guard = none) (d : Option Tmp) (hd : o.dst = d) (x y : Operand) (t : TypeId) (hop : o.op = Op.store t x y) (k : IntKind) (ys : List Int) (b p : Nat) (hx : a.eval x = .pointer (some ⟨b, p, none⟩)) (hy : a.eval y = .agg (ints k ys))
    (ht : w.there b p ys.length) (n : Nat) (hi : (Tryd.prog.info? t).map (·.size) = some n) (hn : ys.length = n)
    (hK : K (a.put d undef) (w.setCells b p (ys.map (Value.int k)))) :
    if Region.wanted o (yielded ops a.tmps) = true then Oper.wp Tryd.prog o a w K Q else E := by
  have hw : Region.wanted o (yielded ops a.tmps) = true := by simp [Region.wanted, hg]
  rw [if_pos hw]
  subst hd
  exact wp_store_mid t x y hop b p (ints k ys) hx hy (by rw [ints_size]; exact ht) (by rw [hi, ints_size, hn]) (ints_one k ys) (by rw [ints_toList]; exact hK)
end

/-- what is known on the way through 'k, w := constants(), stretch(block)': what was there is there, and the places that were made lie apart -/
def Pl (N : Nat) (w : World) (f : Bool) (v : Value) : Prop := f = true → ∃ b, v = .pointer (some ⟨b, 0, none⟩) ∧ N ≤ b ∧ Ar w b 0 .u32 z64
def Jw (w3 : World) (f5 f6 : Bool) (v5 v6 : Value) (w : World) : Prop := Below w3.heap.size w3 w ∧ Pl w3.heap.size w f5 v5 ∧ Pl w3.heap.size w f6 v6 ∧ (f5 = true → f6 = true → v5 ≠ v6)
theorem Pl.to {N : Nat} {w w' : World} {f : Bool} {v : Value} (h : Pl N w f v) (hb : Below w.heap.size w w') : Pl N w' f v := fun hf => by
  obtain ⟨b, h1, h2, h3⟩ := h hf
  exact ⟨b, h1, h2, h3.below hb (h3.lt (by decide))⟩
theorem Jw.start (w3 : World) (v5 v6 : Value) : Jw w3 false false v5 v6 w3.drew := ⟨(Below.refl _ _).drew, (fun h => by cases h), (fun h => by cases h), (fun h => by cases h)⟩
theorem Jw.call {w3 : World} {f5 f6 : Bool} {v5 v6 : Value} {w w' : World} (h : Jw w3 f5 f6 v5 v6 w) (hb : Below w.heap.size w w') : Jw w3 f5 f6 v5 v6 w' :=
  ⟨h.1.trans (hb.mono h.1.size), h.2.1.to hb, h.2.2.1.to hb, h.2.2.2⟩
theorem Jw.new5 {w3 : World} {f6 : Bool} {v5 v6 : Value} {w : World} (h : Jw w3 false f6 v5 v6 w) (t : TypeId) : Jw w3 true f6 (.pointer (some ⟨w.heap.size, 0, none⟩)) v6 (w.alloc (.cells (ints .u32 z64) t)) := by
  have hb : Below w.heap.size w (w.alloc (.cells (ints .u32 z64) t)) := (Below.refl _ _).alloc (Nat.le_refl _) _
  refine ⟨h.1.trans (hb.mono h.1.size), fun _ => ⟨_, rfl, h.1.size, Ar.new w t .u32 z64⟩, h.2.2.1.to hb, fun _ hf e => ?_⟩
  obtain ⟨b, h1, h2, h3⟩ := h.2.2.1 hf
  have := h3.lt (by decide)
  rw [h1] at e
  injection e with e; injection e with e; injection e with e
  omega
theorem Jw.new6 {w3 : World} {f5 : Bool} {v5 v6 : Value} {w : World} (h : Jw w3 f5 false v5 v6 w) (t : TypeId) : Jw w3 f5 true v5 (.pointer (some ⟨w.heap.size, 0, none⟩)) (w.alloc (.cells (ints .u32 z64) t)) := by
  have hb : Below w.heap.size w (w.alloc (.cells (ints .u32 z64) t)) := (Below.refl _ _).alloc (Nat.le_refl _) _
  refine ⟨h.1.trans (hb.mono h.1.size), h.2.1.to hb, fun _ => ⟨_, rfl, h.1.size, Ar.new w t .u32 z64⟩, fun hf _ e => ?_⟩
  obtain ⟨b, h1, h2, h3⟩ := h.2.1 hf
  have := h3.lt (by decide)
  rw [h1] at e
  injection e with e; injection e with e; injection e with e
  omega
theorem Jw.there5 {w3 w : World} {b : Nat} {v6 : Value} {f6 : Bool} (h : Jw w3 true f6 (.pointer (some ⟨b, 0, none⟩)) v6 w) (n : Nat) (hn : n = 64) : w.there b 0 n := by
  obtain ⟨b', h1, h2, h3⟩ := h.2.1 rfl
  injection h1 with h1; injection h1 with h1; injection h1 with h1
  subst h1; subst hn; exact h3.2
theorem Jw.there6 {w3 w : World} {b : Nat} {v5 : Value} {f5 : Bool} (h : Jw w3 f5 true v5 (.pointer (some ⟨b, 0, none⟩)) w) (n : Nat) (hn : n = 64) : w.there b 0 n := by
  obtain ⟨b', h1, h2, h3⟩ := h.2.2.1 rfl
  injection h1 with h1; injection h1 with h1; injection h1 with h1
  subst h1; subst hn; exact h3.2
/-- both places are written -/
theorem Jw.fin {w3 w : World} {b5 b6 : Nat} (h : Jw w3 true true (.pointer (some ⟨b5, 0, none⟩)) (.pointer (some ⟨b6, 0, none⟩)) w) (xs ys : List Int) (hx : xs.length = 64) (hy : ys.length = 64) :
    Ar ((w.setCells b5 0 (xs.map (Value.int .u32))).setCells b6 0 (ys.map (Value.int .u32))) b5 0 .u32 xs ∧ Ar ((w.setCells b5 0 (xs.map (Value.int .u32))).setCells b6 0 (ys.map (Value.int .u32))) b6 0 .u32 ys ∧
      Below w3.heap.size w3 ((w.setCells b5 0 (xs.map (Value.int .u32))).setCells b6 0 (ys.map (Value.int .u32))) := by
  have t5 := h.there5 xs.length hx
  have t6 := h.there6 ys.length hy
  have hne : b5 ≠ b6 := fun e => h.2.2.2 rfl rfl (by rw [e])
  obtain ⟨c5, h1, h2, -⟩ := h.2.1 rfl
  obtain ⟨c6, h3, h4, -⟩ := h.2.2.1 rfl
  injection h1 with h1; injection h1 with h1; injection h1 with h1
  injection h3 with h3; injection h3 with h3; injection h3 with h3
  subst h1; subst h3
  exact ⟨(Ar.whole t5).apart _ _ _ (Or.inl hne), Ar.whole (World.there_setCells t6 _ _ _), Lib.below_setCells _ h4 _ _ (Lib.below_setCells _ h2 _ _ h.1)⟩
theorem step_load {ops : Array Oper} {o : Oper} {a : Act} {Q : Exit → Act → World → Prop} {K : Act → World → Prop} {E : Prop} (w : World) (hg : o.guard = none) (d : Option Tmp) (hd : o.dst = d) (x : Operand) (t : TypeId) (hop : o.op = Op.load t x) (k : IntKind) (xs : List Int) (b p : Nat) (hx : a.eval x = .pointer (some ⟨b, p, none⟩)) (h : Ar w b p k xs)
    (n : Nat) (e : TypeId) (hu : Tryd.prog.underlying t = some (.array n e)) (hi : (Tryd.prog.info? t).map (·.size) = some n) (hn : xs.length = n)
    (hK : K (a.put d (.agg (ints k xs))) w) : if Region.wanted o (yielded ops a.tmps) = true then Oper.wp Tryd.prog o a w K Q else E := by
  have hw : Region.wanted o (yielded ops a.tmps) = true := by simp [Region.wanted, hg]
  rw [if_pos hw]
  subst hd
  exact wp_load_mid t x hop b p hx _ _ h.1 hu rfl (by rw [hi]; simp [hn]) hK

/-- 'k, w := constants(), stretch(block)', in whatever order -/
structure Fr (fr : Value → Value → Value → Value → Value → Act) (bB : Nat) : Prop where
  p18 : ∀ a b c d e x, (fr a b c d e).put (some 18) x = fr x b c d e
  p19 : ∀ a b c d e x, (fr a b c d e).put (some 19) x = fr a x c d e
  p20 : ∀ a b c d e x, (fr a b c d e).put (some 20) x = fr a b x d e
  p5 : ∀ a b c d e x, (fr a b c d e).put (some 5) x = fr a b c x e
  p6 : ∀ a b c d e x, (fr a b c d e).put (some 6) x = fr a b c d x
  e3 : ∀ a b c d e, (fr a b c d e).eval (.tmp 3) = .pointer (some ⟨bB, 0, none⟩)
  e18 : ∀ a b c d e, (fr a b c d e).eval (.tmp 18) = a
  e19 : ∀ a b c d e, (fr a b c d e).eval (.tmp 19) = b
  e20 : ∀ a b c d e, (fr a b c d e).eval (.tmp 20) = c
  e5 : ∀ a b c d e, (fr a b c d e).eval (.tmp 5) = d
  e6 : ∀ a b c d e, (fr a b c d e).eval (.tmp 6) = e

/-- how many of the first five are still to come -/
def left5 (b0 b1 b2 b3 b4 : Bool) : Nat := (if b0 then 0 else 1) + (if b1 then 0 else 1) + (if b2 then 0 else 1) + (if b3 then 0 else 1) + (if b4 then 0 else 1)

/-- which of the first five may come up -/
def rl5 (b0 b1 b2 b3 b4 : Bool) : List Nat := (if b0 then [] else [0]) ++ (if b1 then [] else [1]) ++ (if b0 && b1 && !b2 then [2] else []) ++ (if b3 then [] else [3]) ++ (if b4 then [] else [4])
theorem rl5_ne (b0 b1 b2 b3 b4 : Bool) (h : (b0 && b1 && b2 && b3 && b4) = false) : rl5 b0 b1 b2 b3 b4 ≠ [] := by
  revert h; cases b0 <;> cases b1 <;> cases b2 <;> cases b3 <;> cases b4 <;> decide
theorem rl5_in (b0 b1 b2 b3 b4 : Bool) : ∀ i ∈ rl5 b0 b1 b2 b3 b4, (i = 0 ∧ b0 = false) ∨ (i = 1 ∧ b1 = false) ∨ (i = 2 ∧ b0 = true ∧ b1 = true ∧ b2 = false) ∨ (i = 3 ∧ b3 = false) ∨ (i = 4 ∧ b4 = false) := by
  cases b0 <;> cases b1 <;> cases b2 <;> cases b3 <;> cases b4 <;> decide

theorem step_call {ops : Array Oper} {o : Oper} {a : Act} {Q : Exit → Act → World → Prop} {K : Act → World → Prop} {E : Prop} (w : World) (hg : o.guard = none) (d : Option Tmp) (hd : o.dst = d) (f : FuncId) (args : Array Operand) (ats : Array TypeId) (hop : o.op = .call { callee := .value (.func f), args := args, argTypes := ats })
    (hcf : ∀ (q : Array Value) (w : World), (callFunc f q).run Tryd.prog w = .ok (.enter f q) w) (v : Value) (R : World → Prop) (hc : Calls Tryd.prog f (args.map a.eval) w fun e w' => e = .returned v ∧ R w') (hK : ∀ w', R w' → K (a.put d v) w') : if Region.wanted o (yielded ops a.tmps) = true then Oper.wp Tryd.prog o a w K Q else E := by
  have hw : Region.wanted o (yielded ops a.tmps) = true := by simp [Region.wanted, hg]
  rw [if_pos hw]
  subst hd
  unfold Oper.wp
  simp only [execOp, hop]
  go_simp
  refine hc.mono ?_
  rintro e w' ⟨rfl, hr⟩
  exact hK w' hr

set_option maxHeartbeats 4000000 in
theorem two_rows {Q : Exit → Act → World → Prop} (w3 : World) (bB : Nat) (bs : List Int) (A1 : Ar w3 bB 0 .u8 bs) (hlt : bB < w3.heap.size) (HB : AllB bs) (HL : bs.length = 64)
    (fr : Value → Value → Value → Value → Value → Act) (F : Fr fr bB) (ops : Array Oper)
    (o0 o1 o2 o3 o4 o5 o6 : Oper) (h0 : ops[0]? = some o0) (h1 : ops[1]? = some o1) (h2 : ops[2]? = some o2) (h3 : ops[3]? = some o3) (h4 : ops[4]? = some o4) (h5 : ops[5]? = some o5) (h6 : ops[6]? = some o6)
    (G : o0.guard = none ∧ o1.guard = none ∧ o2.guard = none ∧ o3.guard = none ∧ o4.guard = none ∧ o5.guard = none ∧ o6.guard = none)
    (D : o0.dst = some 18 ∧ o1.dst = some 19 ∧ o2.dst = some 20 ∧ o3.dst = some 5 ∧ o4.dst = some 6 ∧ o5.dst = none ∧ o6.dst = none)
    (O0 : o0.op = .call { callee := .value (.func 84), args := #[], argTypes := #[] }) (O1 : o1.op = .load 96 (.tmp 3)) (O2 : o2.op = .call { callee := .value (.func 85), args := #[.tmp 19], argTypes := #[96] })
    (O3 : o3.op = .alloc 117) (O4 : o4.op = .alloc 117) (O5 : o5.op = .store 117 (.tmp 5) (.tmp 18)) (O6 : o6.op = .store 117 (.tmp 6) (.tmp 20))
    (rdy : ∀ b0 b1 b2 b3 b4 : Bool, (b0 && b1 && b2 && b3 && b4) = false → (b2 = true → (b0 && b1) = true) → Region.ready .any ops #[b0, b1, b2, b3, b4, false, false] = rl5 b0 b1 b2 b3 b4)
    (r5 : Region.ready .any ops #[true, true, true, true, true, false, false] = [5]) (r6 : Region.ready .any ops #[true, true, true, true, true, true, false] = [6]) (r7 : Region.ready .any ops #[true, true, true, true, true, true, true] = [])
    (hQ : ∀ a b c b5 b6 w', Ar w' b5 0 .u32 kc → Ar w' b6 0 .u32 (sched bs 64) → Below w3.heap.size w3 w' → Q .normal (fr a b c (.pointer (some ⟨b5, 0, none⟩)) (.pointer (some ⟨b6, 0, none⟩))) w') :
    ∀ (n : Nat) (b0 b1 b2 b3 b4 : Bool), left5 b0 b1 b2 b3 b4 = n → (b2 = true → (b0 && b1) = true) → ∀ (va vb vc vd ve : Value) (w : World), (b0 = true → va = .agg (ints .u32 kc)) → (b1 = true → vb = .agg (ints .u8 bs)) → (b2 = true → vc = .agg (ints .u32 (sched bs 64))) → Jw w3 b3 b4 vd ve w →
      wpAny Tryd.prog .any ops Q (n + 2) #[b0, b1, b2, b3, b4, false, false] (fr va vb vc vd ve) w := by
  obtain ⟨G0, G1, G2, G3, G4, G5, G6⟩ := G
  obtain ⟨D0, D1, D2, D3, D4, D5, D6⟩ := D
  have hsc : (sched bs 64).length = 64 := sched_len bs 64
  have hst : ∀ w, Calls Tryd.prog 85 #[.agg (ints .u8 bs)] w fun e w' => e = .returned (.agg (ints .u32 (sched bs 64))) ∧ Below w.heap.size w w' := fun w => stretch_any bs w HB HL
  generalize sched bs 64 = sc at *
  intro n
  induction n with
  | zero =>
    intro b0 b1 b2 b3 b4 hn h12 va vb vc vd ve w q0 q1 q2 J
    have hb : b0 = true ∧ b1 = true ∧ b2 = true ∧ b3 = true ∧ b4 = true := by
      unfold left5 at hn
      cases b0 <;> cases b1 <;> cases b2 <;> cases b3 <;> cases b4 <;> simp at hn ⊢
    obtain ⟨rfl, rfl, rfl, rfl, rfl⟩ := hb
    obtain rfl := q0 rfl
    obtain rfl := q1 rfl
    obtain rfl := q2 rfl
    obtain ⟨b5, rfl, -, -⟩ := J.2.1 rfl
    obtain ⟨b6, rfl, -, -⟩ := J.2.2.1 rfl
    refine wpAny_ready r5 (by simp) (AllReady.cons h5 (fun K hK => ?_) AllReady.nil)
    refine step_store _ G5 none D5 (.tmp 5) (.tmp 18) 117 O5 .u32 kc b5 0 (F.e5 ..) (F.e18 ..) (J.there5 _ kc_len) 64 i_arr64w kc_len (hK _ _ ?_)
    refine wpAny_ready (listed := #[true, true, true, true, true, true, false]) r6 (by simp) (AllReady.cons h6 (fun K hK => ?_) AllReady.nil)
    refine step_store _ G6 none D6 (.tmp 6) (.tmp 20) 117 O6 .u32 sc b6 0 (F.e6 ..) (F.e20 ..) (World.there_setCells (J.there6 _ hsc) _ _ _) 64 i_arr64w hsc (hK _ _ ?_)
    refine wpAny_done (listed := #[true, true, true, true, true, true, true]) r7 ?_ _
    obtain ⟨f1, f2, f3⟩ := J.fin kc sc kc_len hsc
    exact hQ _ _ _ _ _ _ f1 f2 f3
  | succ n ih =>
    intro b0 b1 b2 b3 b4 hn h12 va vb vc vd ve w q0 q1 q2 J
    have hal : (b0 && b1 && b2 && b3 && b4) = false := by
      unfold left5 at hn
      cases b0 <;> cases b1 <;> cases b2 <;> cases b3 <;> cases b4 <;> simp at hn ⊢
    have rne := rl5_ne b0 b1 b2 b3 b4 hal
    have rall := rl5_in b0 b1 b2 b3 b4
    rw [← rdy b0 b1 b2 b3 b4 hal h12] at rne rall
    refine ⟨fun h => absurd h rne, fun i hi => ?_⟩
    rcases rall i hi with ⟨rfl, rfl⟩ | ⟨rfl, rfl⟩ | ⟨rfl, rfl, rfl, rfl⟩ | ⟨rfl, rfl⟩ | ⟨rfl, rfl⟩
    · have H : AllReady Tryd.prog .any ops Q (n + 2) #[false, b1, b2, b3, b4, false, false] (fr va vb vc vd ve) w [0] := AllReady.cons h0 (fun K hK => ?_) AllReady.nil
      · exact H 0 (by simp)
      · refine step_call w G0 (some 18) D0 84 #[] #[] O0 (fun _ _ => rfl) (.agg (ints .u32 kc)) (fun w' => Below w.heap.size w w') (by have := constants_any w; simpa using this) fun w' hb' => hK _ _ ?_
        rw [F.p18]
        exact ih true b1 b2 b3 b4 (by unfold left5 at hn ⊢; simp at hn ⊢; omega) (fun h => by have := h12 h; simp at this) _ _ _ _ _ _ (fun _ => rfl) q1 q2 (J.call hb')
    · have H : AllReady Tryd.prog .any ops Q (n + 2) #[b0, false, b2, b3, b4, false, false] (fr va vb vc vd ve) w [1] := AllReady.cons h1 (fun K hK => ?_) AllReady.nil
      · exact H 1 (by simp)
      · refine step_load w G1 (some 19) D1 (.tmp 3) 96 O1 .u8 bs bB 0 (F.e3 ..) (A1.below J.1 hlt) 64 5 Tryd.underlying96 i_arr64b HL (hK _ _ ?_)
        rw [F.p19]
        exact ih b0 true b2 b3 b4 (by unfold left5 at hn ⊢; simp at hn ⊢; omega) (fun h => by have := h12 h; simp at this) _ _ _ _ _ _ q0 (fun _ => rfl) q2 J
    · obtain rfl := q1 rfl
      have H : AllReady Tryd.prog .any ops Q (n + 2) #[true, true, false, b3, b4, false, false] (fr va (.agg (ints .u8 bs)) vc vd ve) w [2] := AllReady.cons h2 (fun K hK => ?_) AllReady.nil
      · exact H 2 (by simp)
      · refine step_call w G2 (some 20) D2 85 #[.tmp 19] #[96] O2 (fun _ _ => rfl) (.agg (ints .u32 sc)) (fun w' => Below w.heap.size w w') ?_ fun w' hb' => hK _ _ ?_
        · have e : (#[Operand.tmp 19].map (fr va (.agg (ints .u8 bs)) vc vd ve).eval) = #[.agg (ints .u8 bs)] := by simp [F.e19]
          rw [e]
          exact hst w
        · rw [F.p20]
          exact ih true true true b3 b4 (by unfold left5 at hn ⊢; simp at hn ⊢; omega) (fun _ => rfl) _ _ _ _ _ _ q0 (fun _ => rfl) (fun _ => rfl) (J.call hb')
    · have H : AllReady Tryd.prog .any ops Q (n + 2) #[b0, b1, b2, false, b4, false, false] (fr va vb vc vd ve) w [3] := AllReady.cons h3 (fun K hK => ?_) AllReady.nil
      · exact H 3 (by simp)
      · refine step_new w G3 (some 5) D3 117 O3 .u32 z64 z_arr64w (hK _ _ ?_)
        rw [F.p5]
        exact ih b0 b1 b2 true b4 (by unfold left5 at hn ⊢; simp at hn ⊢; omega) h12 _ _ _ _ _ _ q0 q1 q2 (J.new5 _)
    · have H : AllReady Tryd.prog .any ops Q (n + 2) #[b0, b1, b2, b3, false, false, false] (fr va vb vc vd ve) w [4] := AllReady.cons h4 (fun K hK => ?_) AllReady.nil
      · exact H 4 (by simp)
      · refine step_new w G4 (some 6) D4 117 O4 .u32 z64 z_arr64w (hK _ _ ?_)
        rw [F.p6]
        exact ih b0 b1 b2 b3 true (by unfold left5 at hn ⊢; simp at hn ⊢; omega) h12 _ _ _ _ _ _ q0 q1 q2 (J.new6 _)

set_option maxRecDepth 100000 in
set_option maxHeartbeats 8000000 in
theorem compress_any (st bs : List Int) (w : World) (hs : AllW st) (hsl : st.length = 8) (hb : AllB bs) (hl : bs.length = 64) :
    Calls Tryd.prog 77 #[.agg (ints .u32 st), .agg (ints .u8 bs)] w fun e w' => e = .returned (.agg (ints .u32 (comp st bs))) ∧ Below w.heap.size w w' := by
  have HB : Hid (AllB bs) := hb
  have HL : Hid (bs.length = 64) := hl
  have HS : Hid (AllW st) := hs
  have HSL : Hid (st.length = 8) := hsl
  clear hb hl hs hsl
  go_enter Tryd.func77, Tryd.ntmps77
  go_wp2_with (first
    | (refine box_law _ rfl (.tmp 0) 108 rfl .u32 st rfl ?_)
    | (refine box_law _ rfl (.tmp 1) 96 rfl .u8 bs rfl ?_)
    | (refine new_law _ rfl 108 rfl .u32 z8 z_arr8 ?_))
  have z1 : (w.alloc (Obj.cells (ints IntKind.u32 st) 108)).heap.size = w.heap.size + 1 := by simp
  have z2 : ((w.alloc (Obj.cells (ints IntKind.u32 st) 108)).alloc (Obj.cells (ints IntKind.u8 bs) 96)).heap.size = w.heap.size + 1 + 1 := by simp
  simp only [Act.put, List.setIfInBounds_toArray, List.set_cons_zero, List.set_cons_succ, z1, z2]
  clear z1 z2
  obtain ⟨w3, hw3⟩ : ∃ w3, w3 = ((w.alloc (Obj.cells (ints IntKind.u32 st) 108)).alloc (Obj.cells (ints IntKind.u8 bs) 96)).alloc (Obj.cells (ints IntKind.u32 z8) 108) := ⟨_, rfl⟩
  have A0 : Ar w3 w.heap.size 0 .u32 st := by rw [hw3]; exact ((Ar.new w _ _ _).alloc _).alloc _
  have A1 : Ar w3 (w.heap.size + 1) 0 .u8 bs := by
    have := (Ar.new (w.alloc (Obj.cells (ints IntKind.u32 st) 108)) 96 .u8 bs).alloc (Obj.cells (ints IntKind.u32 z8) 108)
    rw [hw3]; simpa using this
  have A2 : Ar w3 (w.heap.size + 1 + 1) 0 .u32 z8 := by
    have := Ar.new ((w.alloc (Obj.cells (ints IntKind.u32 st) 108)).alloc (Obj.cells (ints IntKind.u8 bs) 96)) 108 .u32 z8
    rw [hw3]; simpa using this
  have B0 : Below w.heap.size w w3 := by rw [hw3]; exact (((Below.refl _ _).alloc (Nat.le_refl _) _).alloc (by simp) _).alloc (by simp; omega) _
  have hz3 : w3.heap.size = w.heap.size + 1 + 1 + 1 := by rw [hw3]; simp
  rw [← hw3]
  have HW3 : Hid (w3 = ((w.alloc (Obj.cells (ints IntKind.u32 st) 108)).alloc (Obj.cells (ints IntKind.u8 bs) 96)).alloc (Obj.cells (ints IntKind.u32 z8) 108)) := hw3
  have HZ3 : Hid (w3.heap.size = w.heap.size + 1 + 1 + 1) := hz3
  clear hw3 hz3
  have hu : Tryd.prog.underlying 96 = some (.array 64 5) := Tryd.underlying96
  have hi : (Tryd.prog.info? 96).map (·.size) = some (bs.map (Value.int .u8)).length := by rw [i_arr64b]; simp [HL.out]
  have HSC : Hid ((sched bs 64).length = 64) := sched_len bs 64
  go_cut [5, 6] (fun r5 r6 wc => ∃ b5 b6 : Nat, r5 = .pointer (some ⟨b5, 0, none⟩) ∧ r6 = .pointer (some ⟨b6, 0, none⟩) ∧ Ar wc b5 0 .u32 kc ∧ Ar wc b6 0 .u32 (sched bs 64) ∧ Below w3.heap.size w3 wc)
  case first =>
    refine wp_region_any (by kernel_rfl) ?_
    have F : Fr (fun a b c d e => { tmps := #[.agg (ints .u32 st), .agg (ints .u8 bs), .pointer (some ⟨w.heap.size, 0, none⟩), .pointer (some ⟨w.heap.size + 1, 0, none⟩), .pointer (some ⟨w.heap.size + 1 + 1, 0, none⟩), d, e, undef, undef, undef, undef, undef, undef, undef, undef, undef, undef, undef, a, b, c, undef, undef, undef, undef, undef, undef, undef, undef, undef, undef, undef, undef, undef, undef, undef, undef, undef, undef, undef, undef, undef, undef, undef, undef, undef, undef, undef, undef, undef, undef, undef, undef, undef, undef, undef, undef, undef, undef, undef, undef, undef, undef, undef, undef, undef, undef, undef, undef, undef, undef, undef, undef, undef, undef, undef, undef, undef, undef, undef, undef, undef, undef, undef, undef, undef, undef, undef, undef, undef, undef, undef, undef, undef, undef, undef, undef, undef, undef, undef, undef, undef, undef, undef, undef, undef, undef, undef, undef, undef, undef, undef, undef, undef, undef, undef, undef, undef], defers := [] }) (w.heap.size + 1) := by constructor <;> (intros; rfl)
    refine two_rows w3 (w.heap.size + 1) bs A1 (by have := HZ3.out; omega) HB.out HL.out _ F _ _ _ _ _ _ _ _ rfl rfl rfl rfl rfl rfl rfl ⟨rfl, rfl, rfl, rfl, rfl, rfl, rfl⟩ ⟨rfl, rfl, rfl, rfl, rfl, rfl, rfl⟩ rfl rfl rfl rfl rfl rfl rfl (by intro b0 b1 b2 b3 b4 h h2; cases b0 <;> cases b1 <;> cases b2 <;> cases b3 <;> cases b4 <;> first | exact absurd h (by decide) | exact absurd (h2 rfl) (by decide) | kernel_rfl) (by kernel_rfl) (by kernel_rfl) (by kernel_rfl) ?_ 5 false false false false false rfl (fun h => by cases h) undef undef undef undef undef _ (fun h => by cases h) (fun h => by cases h) (fun h => by cases h) (Jw.start w3 undef undef)
    intro a b c b5 b6 w' k1 k2 k3
    go_wp2_with fail
    go_meet
    exact ⟨_, _, rfl, rfl, k1, k2, k3⟩
  case rest =>
    obtain ⟨b5, b6, rfl, rfl, K1, K2, K3⟩ := hcut
    have A0' := A0.below K3 (by have := HZ3.out; omega)
    have A2' := A2.below K3 (by have := HZ3.out; omega)
    have B1 : Below w.heap.size w wc := B0.trans (K3.mono (by have := HZ3.out; omega))
    clear A0 A1 A2 K3 hi hu HW3 HZ3
    have c0 := A0'.cell0 0 (by rw [HSL.out]; omega)
    have c1 := A0'.cell0 1 (by rw [HSL.out]; omega)
    have c2 := A0'.cell0 2 (by rw [HSL.out]; omega)
    have c3 := A0'.cell0 3 (by rw [HSL.out]; omega)
    have c4 := A0'.cell0 4 (by rw [HSL.out]; omega)
    have c5 := A0'.cell0 5 (by rw [HSL.out]; omega)
    have c6 := A0'.cell0 6 (by rw [HSL.out]; omega)
    have c7 := A0'.cell0 7 (by rw [HSL.out]; omega)
    go_wp2
    go_quiet (fail)
    go_wp2
    have HK1 : Hid (Ar wc b5 0 .u32 kc) := K1
    have HK2 : Hid (Ar wc b6 0 .u32 (sched bs 64)) := K2
    have HR : Hid (∀ t, AllW (rnds st (sched bs 64) t)) := fun t => rnds_all st _ HS.out t
    obtain ⟨RS, hRS⟩ : ∃ RS : Nat → List Int, RS = rnds st (sched bs 64) := ⟨_, rfl⟩
    rw [← hRS] at HR
    have R0 : RS 0 = st := by rw [hRS]; rfl
    have HRS : Hid (RS = rnds st (sched bs 64)) := hRS
    have HN : Hid (∀ t, RS (t + 1) = rnd (RS t) (gb kc t) (gb (sched bs 64) t)) := by rw [hRS]; exact fun t => rfl
    clear hRS K1 K2
    go_loopw [7, 8, 9, 10, 11, 12, 13, 14, 37] (fun va vb vc vd ve vf vg vh i wr => ∃ k d : Nat, k ≤ 64 ∧ i = .int .i64 k ∧ va = .int .u32 (gb (RS k) 0) ∧ vb = .int .u32 (gb (RS k) 1) ∧ vc = .int .u32 (gb (RS k) 2) ∧ vd = .int .u32 (gb (RS k) 3) ∧ ve = .int .u32 (gb (RS k) 4) ∧ vf = .int .u32 (gb (RS k) 5) ∧ vg = .int .u32 (gb (RS k) 6) ∧ vh = .int .u32 (gb (RS k) 7) ∧ wr = wc.drewN d) (fun _ _ _ _ _ _ _ _ i _ => 64 - (intOf i).toNat)
    case atStart => exact ⟨0, nq, by omega, rfl, by rw [R0], by rw [R0], by rw [R0], by rw [R0], by rw [R0], by rw [R0], by rw [R0], by rw [R0], rfl⟩
    case round =>
      obtain ⟨k, d, hk, rfl, rfl, rfl, rfl, rfl, rfl, rfl, rfl, rfl, rfl⟩ := hrel
      by_cases hlt : k < 64
      · have x1 := HK1.out.cell0 k (by rw [kc_len]; exact hlt)
        have x2 := HK2.out.cell0 k (by rw [HSC.out]; exact hlt)
        have q0 : (k : Int) < 64 := by omega
        have E := HN.out k
        have WA := HR.out k
        have W0 : Hid (W32 (gb (RS k) 0)) := WA 0
        have W4 : Hid (W32 (gb (RS k) 4)) := WA 4
        obtain ⟨r, hr⟩ : ∃ r, r = RS k := ⟨_, rfl⟩
        obtain ⟨kk, hkk⟩ : ∃ x, x = gb kc k := ⟨_, rfl⟩
        obtain ⟨ww, hww⟩ : ∃ x, x = gb (sched bs 64) k := ⟨_, rfl⟩
        rw [← hkk] at x1 E
        rw [← hww] at x2 E
        rw [← hr] at E W0 W4 ⊢
        have HE : Hid (RS (k + 1) = rnd r kk ww) := E
        have HT1 : Hid (tt1 r kk ww = ((((gb r 7 + bg1 (gb r 4)) % 4294967296 + chs (gb r 4) (gb r 5) (gb r 6)) % 4294967296 + kk) % 4294967296 + ww) % 4294967296) := rfl
        have HT2 : Hid (tt2 r = (bg0 (gb r 0) + maj (gb r 0) (gb r 1) (gb r 2)) % 4294967296) := rfl
        have G0 : Hid (gb (rnd r kk ww) 0 = (tt1 r kk ww + tt2 r) % 4294967296 ∧ gb (rnd r kk ww) 1 = gb r 0 ∧ gb (rnd r kk ww) 2 = gb r 1 ∧ gb (rnd r kk ww) 3 = gb r 2 ∧ gb (rnd r kk ww) 4 = (gb r 3 + tt1 r kk ww) % 4294967296 ∧ gb (rnd r kk ww) 5 = gb r 4 ∧ gb (rnd r kk ww) 6 = gb r 5 ∧ gb (rnd r kk ww) 7 = gb r 6) := ⟨rfl, rfl, rfl, rfl, rfl, rfl, rfl, rfl⟩
        clear hr hkk hww E WA
        obtain ⟨wd, hwd⟩ : ∃ wd, wd = wc.drewN d := ⟨_, rfl⟩
        rw [← hwd]
        have x1 : wd.cell? ⟨b5, k, none⟩ = some (.int .u32 kk) := by rw [hwd]; exact x1
        have x2 : wd.cell? ⟨b6, k, none⟩ = some (.int .u32 ww) := by rw [hwd]; exact x2
        have HWD : Hid (wd = wc.drewN d) := hwd
        clear hwd
        generalize tt1 r kk ww = T1 at *
        generalize tt2 r = T2 at *
        generalize gb r 0 = r0 at *
        generalize gb r 1 = r1 at *
        generalize gb r 2 = r2 at *
        generalize gb r 3 = r3 at *
        generalize gb r 4 = r4 at *
        generalize gb r 5 = r5 at *
        generalize gb r 6 = r6 at *
        generalize gb r 7 = r7 at *
        go_wp2
        go_quiet (first
          | (go_at_call 86; exact Calls.quiet_of_same (bigSigma1_any _ _ W4.out))
          | (go_at_call 87; exact Calls.quiet_of_same (choose_any _ _ _ _ W4.out)))
        go_wp2_with (first
          | (go_at_call 88; refine (bigSigma0_any _ _ W0.out).mono ?_; rintro e w' ⟨rfl, hw⟩; obtain rfl := hw.symm)
          | (go_at_call 89; refine (majority_any _ _ _ _).mono ?_; rintro e w' ⟨rfl, hw⟩; obtain rfl := hw.symm))
        go_roundw
        case rel =>
          try (iterate 120 (apply Exists.intro))
          try (refine ⟨?_, rfl⟩)
          obtain ⟨g0, g1, g2, g3, g4, g5, g6, g7⟩ := G0.out
          have h1 := HT1.out
          rw [← sum5] at h1
          have h2 := HT2.out
          have e := HE.out
          refine ⟨k + 1, d + nq, by omega, by go_num, ?_, ?_, ?_, ?_, ?_, ?_, ?_, ?_, ?_⟩
          · rw [e, g0, h1, h2]
          · rw [e, g1]
          · rw [e, g2]
          · rw [e, g3]
          · rw [e, g4, h1]
          · rw [e, g5]
          · rw [e, g6]
          · rw [e, g7]
          · rw [HWD.out, World.drewN_drewN]
        case measure => simp [intOf]; omega
      · have : k = 64 := by omega
        subst this
        obtain ⟨r, hr⟩ : ∃ r, r = RS 64 := ⟨_, rfl⟩
        rw [← hr]
        have HA : Hid (comp st bs = addl st r) := by rw [hr, HRS.out]; rfl
        have HLEN : Hid ((addl st r).length = 8) := rfl
        have BU : Bun w st (wc.drewN d) := ⟨HSL.out, A0'.drewN d, A2'.drewN d, below_drewN B1 d⟩
        clear A0' A2' B1 c0 c1 c2 c3 c4 c5 c6 c7
        generalize wc.drewN d = wd at *
        have HADD : addl st r = [(gb st 0 + gb r 0) % 4294967296, (gb st 1 + gb r 1) % 4294967296, (gb st 2 + gb r 2) % 4294967296, (gb st 3 + gb r 3) % 4294967296, (gb st 4 + gb r 4) % 4294967296, (gb st 5 + gb r 5) % 4294967296, (gb st 6 + gb r 6) % 4294967296, (gb st 7 + gb r 7) % 4294967296] := rfl
        obtain ⟨p0, hp0⟩ : ∃ p, p = gb st 0 := ⟨_, rfl⟩
        have P0 : Hid (p0 = gb st 0) := hp0
        rw [← hp0] at HADD
        clear hp0
        obtain ⟨p1, hp1⟩ : ∃ p, p = gb st 1 := ⟨_, rfl⟩
        have P1 : Hid (p1 = gb st 1) := hp1
        rw [← hp1] at HADD
        clear hp1
        obtain ⟨p2, hp2⟩ : ∃ p, p = gb st 2 := ⟨_, rfl⟩
        have P2 : Hid (p2 = gb st 2) := hp2
        rw [← hp2] at HADD
        clear hp2
        obtain ⟨p3, hp3⟩ : ∃ p, p = gb st 3 := ⟨_, rfl⟩
        have P3 : Hid (p3 = gb st 3) := hp3
        rw [← hp3] at HADD
        clear hp3
        obtain ⟨p4, hp4⟩ : ∃ p, p = gb st 4 := ⟨_, rfl⟩
        have P4 : Hid (p4 = gb st 4) := hp4
        rw [← hp4] at HADD
        clear hp4
        obtain ⟨p5, hp5⟩ : ∃ p, p = gb st 5 := ⟨_, rfl⟩
        have P5 : Hid (p5 = gb st 5) := hp5
        rw [← hp5] at HADD
        clear hp5
        obtain ⟨p6, hp6⟩ : ∃ p, p = gb st 6 := ⟨_, rfl⟩
        have P6 : Hid (p6 = gb st 6) := hp6
        rw [← hp6] at HADD
        clear hp6
        obtain ⟨p7, hp7⟩ : ∃ p, p = gb st 7 := ⟨_, rfl⟩
        have P7 : Hid (p7 = gb st 7) := hp7
        rw [← hp7] at HADD
        clear hp7
        generalize gb r 0 = q0 at *
        generalize gb r 1 = q1 at *
        generalize gb r 2 = q2 at *
        generalize gb r 3 = q3 at *
        generalize gb r 4 = q4 at *
        generalize gb r 5 = q5 at *
        generalize gb r 6 = q6 at *
        generalize gb r 7 = q7 at *
        have HADD : Hid (addl st r = [(p0 + q0) % 4294967296, (p1 + q1) % 4294967296, (p2 + q2) % 4294967296, (p3 + q3) % 4294967296, (p4 + q4) % 4294967296, (p5 + q5) % 4294967296, (p6 + q6) % 4294967296, (p7 + q7) % 4294967296]) := HADD
        generalize addl st r = ad at *
        clear hr R0 HR HN HK1 HK2 HB HL HS HSC
        go_wp2_with (first
          | (refine bun_load _ rfl (.tmp 77) rfl 0 rfl BU (by omega) p0 (by rw [P0.out]; first | done | simp [gb_set_ne]) ?_)
          | (refine bun_store _ rfl (.tmp 81) (.tmp 80) rfl 0 _ rfl rfl BU (by omega) ?_; clear BU; intro w1 BU)
          | (refine bun_load _ rfl (.tmp 82) rfl 1 rfl BU (by omega) p1 (by rw [P1.out]; first | done | simp [gb_set_ne]) ?_)
          | (refine bun_store _ rfl (.tmp 86) (.tmp 85) rfl 1 _ rfl rfl BU (by omega) ?_; clear BU; intro w2 BU)
          | (refine bun_load _ rfl (.tmp 87) rfl 2 rfl BU (by omega) p2 (by rw [P2.out]; first | done | simp [gb_set_ne]) ?_)
          | (refine bun_store _ rfl (.tmp 91) (.tmp 90) rfl 2 _ rfl rfl BU (by omega) ?_; clear BU; intro w3 BU)
          | (refine bun_load _ rfl (.tmp 92) rfl 3 rfl BU (by omega) p3 (by rw [P3.out]; first | done | simp [gb_set_ne]) ?_)
          | (refine bun_store _ rfl (.tmp 96) (.tmp 95) rfl 3 _ rfl rfl BU (by omega) ?_; clear BU; intro w4 BU)
          | (refine bun_load _ rfl (.tmp 97) rfl 4 rfl BU (by omega) p4 (by rw [P4.out]; first | done | simp [gb_set_ne]) ?_)
          | (refine bun_store _ rfl (.tmp 101) (.tmp 100) rfl 4 _ rfl rfl BU (by omega) ?_; clear BU; intro w5 BU)
          | (refine bun_load _ rfl (.tmp 102) rfl 5 rfl BU (by omega) p5 (by rw [P5.out]; first | done | simp [gb_set_ne]) ?_)
          | (refine bun_store _ rfl (.tmp 106) (.tmp 105) rfl 5 _ rfl rfl BU (by omega) ?_; clear BU; intro w6 BU)
          | (refine bun_load _ rfl (.tmp 107) rfl 6 rfl BU (by omega) p6 (by rw [P6.out]; first | done | simp [gb_set_ne]) ?_)
          | (refine bun_store _ rfl (.tmp 111) (.tmp 110) rfl 6 _ rfl rfl BU (by omega) ?_; clear BU; intro w7 BU)
          | (refine bun_load _ rfl (.tmp 112) rfl 7 rfl BU (by omega) p7 (by rw [P7.out]; first | done | simp [gb_set_ne]) ?_)
          | (refine bun_store _ rfl (.tmp 116) (.tmp 115) rfl 7 _ rfl rfl BU (by omega) ?_; clear BU; intro w8 BU; rw [set8 st HSL.out] at BU; rw [← HADD.out] at BU)
          | (refine load_law _ rfl (.tmp 2) 108 rfl .u32 ad _ _ rfl BU.2.1 8 107 Tryd.underlying108 i_arr8 HLEN.out ?_)
          | (refine store_law _ rfl (.tmp 4) (.tmp 117) 108 rfl .u32 ad _ _ rfl rfl (by rw [HLEN.out]; exact BU.2.2.1.2) 8 i_arr8 HLEN.out ?_))
        refine bodyPost_ret (v := .agg (ints .u32 ad)) (results_ar rfl _ _ (w.heap.size + 1 + 1) 0 .u32 ad rfl (Ar.whole (by rw [HLEN.out]; exact BU.2.2.1.2)) 8 107 Tryd.underlying108 i_arr8 HLEN.out) rfl ⟨by rw [HA.out], ?_⟩
        exact Lib.below_setCells _ (by omega) _ _ BU.2.2.2
end Go.Proofs.YtmbfccclghnaeaaDoor.mc

/- What a hash is in memory, and what its words are. No claim of its own. -/
namespace Go.Proofs.YtmbfccclghnaeaaDoor.mc
open Go.RowKit
set_option maxRecDepth 20000

/-- block b holds a hash: its state, its tail, its size -/
def Hsh (w : World) (b : Nat) (st tl : List Int) (n : Nat) : Prop := Ar w b 0 .u32 st ∧ Ar w b 8 .u8 tl ∧ Ar w b 72 .i64 [(n : Int)]
theorem Hsh.below {w w' : World} {b n B : Nat} {st tl : List Int} (h : Hsh w b st tl n) (hb : Below B w w') (hB : b < B) : Hsh w' b st tl n := ⟨h.1.below hb hB, h.2.1.below hb hB, h.2.2.below hb hB⟩
theorem Hsh.lt {w : World} {b n : Nat} {st tl : List Int} (h : Hsh w b st tl n) : b < w.heap.size := h.2.2.lt (by simp)
theorem Hsh.size {w : World} {b n : Nat} {st tl : List Int} (h : Hsh w b st tl n) : w.cell? ⟨b, 72, none⟩ = some (.int .i64 n) := h.2.2.cell 0 (by simp)
/-- the words of the whole blocks -/
def hw (st : List Int) (n : Nat) : List Int := if n = 0 then fst8 else st

set_option maxHeartbeats 2000000 in
theorem hwords_any (w : World) (b n : Nat) (st tl : List Int) (h : Hsh w b st tl n) (hl : st.length = 8) :
    Calls Tryd.prog 76 #[.pointer (some ⟨b, 0, none⟩)] w fun e w' => e = .returned (.agg (ints .u32 (hw st n))) ∧ Below w.heap.size w w' := by
  have hlt := h.lt
  have BA : Below w.heap.size w (w.alloc (.cells (ints .u32 z8) 108)) := (Below.refl _ _).alloc (Nat.le_refl _) _
  have h1 : Hsh (w.alloc (.cells (ints .u32 z8) 108)) b st tl n := h.below BA hlt
  have c72 := h1.size
  have AN : Ar (w.alloc (.cells (ints .u32 z8) 108)) w.heap.size 0 .u32 z8 := Ar.new w _ _ _
  have hzz : (w.alloc (.cells (ints .u32 z8) 108)).heap.size = w.heap.size + 1 := by simp
  have HL : Hid (st.length = 8) := hl
  have HA : Hid (Ar (w.alloc (.cells (ints .u32 z8) 108)) b 0 .u32 st) := h1.1
  have HN : Hid (Ar (w.alloc (.cells (ints .u32 z8) 108)) w.heap.size 0 .u32 z8) := AN
  have HF : Hid (fst8.length = 8) := rfl
  clear h h1 hl AN
  by_cases hn : n = 0
  · subst hn
    go_enter Tryd.func76, Tryd.ntmps76
    go_wp2_with (first
      | (refine new_law _ rfl 108 rfl .u32 z8 z_arr8 ?_)
      | (go_at_call 83; refine (firstState_any _).mono ?_; rintro e w1 ⟨rfl, hb1⟩; have A1 : Ar w1 w.heap.size 0 .u32 z8 := HN.out.below hb1 (by rw [hzz]; omega); have B1 := BA.trans (hb1.mono BA.size))
      | (refine store_law _ rfl (.tmp 2) (.tmp 8) 108 rfl .u32 fst8 _ _ rfl rfl A1.2 8 i_arr8 HF.out ?_)
      | fail)
    refine bodyPost_ret (v := .agg (ints .u32 fst8)) (results_ar rfl _ _ w.heap.size 0 .u32 fst8 rfl (Ar.whole A1.2) 8 107 Tryd.underlying108 i_arr8 HF.out) rfl ⟨by rw [show hw st 0 = fst8 from rfl], ?_⟩
    exact Lib.below_setCells _ (Nat.le_refl _) _ _ B1
  · have hn' : ¬ (n : Int) = 0 := by omega
    have e : hw st n = st := if_neg hn
    rw [e]
    go_enter Tryd.func76, Tryd.ntmps76
    go_wp2_with (first
      | (refine new_law _ rfl 108 rfl .u32 z8 z_arr8 ?_)
      | (refine load_law _ rfl (.tmp 11) 108 rfl .u32 st _ _ rfl HA.out 8 107 Tryd.underlying108 i_arr8 HL.out ?_)
      | (refine store_law _ rfl (.tmp 2) (.tmp 12) 108 rfl .u32 st _ _ rfl rfl (by rw [HL.out]; exact HN.out.2) 8 i_arr8 HL.out ?_)
      | fail)
    refine bodyPost_ret (v := .agg (ints .u32 st)) (results_ar rfl _ _ w.heap.size 0 .u32 st rfl (Ar.whole (by rw [HL.out]; exact HN.out.2)) 8 107 Tryd.underlying108 i_arr8 HL.out) rfl ⟨rfl, ?_⟩
    exact Lib.below_setCells _ (Nat.le_refl _) _ _ BA
end Go.Proofs.YtmbfccclghnaeaaDoor.mc

/- The state of all whole blocks, and how a tail is filled. No claim of its own. -/
namespace Go.Proofs.YtmbfccclghnaeaaDoor.mc
open Go.RowKit
set_option maxRecDepth 20000

/-- the first state, compressed with the first k blocks -/
def upto (xs : List Int) : Nat → List Int
  | 0 => fst8
  | k + 1 => comp (upto xs k) ((xs.drop (64 * k)).take 64)
theorem upto_len (xs : List Int) (k : Nat) : (upto xs k).length = 8 := by
  cases k with
  | zero => rfl
  | succ k => exact comp_len _ _
theorem fst8_all : AllW fst8 := allW_mem (by simp [fst8, W32])
theorem upto_all (xs : List Int) (k : Nat) : AllW (upto xs k) := by
  cases k with
  | zero => exact fst8_all
  | succ k => exact comp_all _ _
theorem upto_append (xs ys : List Int) (k : Nat) (h : 64 * k ≤ xs.length) : upto (xs ++ ys) k = upto xs k := by
  induction k with
  | zero => rfl
  | succ k ih =>
    unfold upto
    rw [ih (by omega), List.drop_append_of_le_length (by omega), List.take_append_of_le_length (by simp; omega)]

theorem fill_block (all tl : List Int) (k u : Nat) (hu : u < 64) (htl : tl.length = 64) (ht : tl.take u = (all.drop (64 * k)).take u) (hN : 64 * k + 64 ≤ all.length) :
    laid tl u ((all.drop (64 * k + u)).take (64 - u)) = (all.drop (64 * k)).take 64 := by
  have hl : ((all.drop (64 * k + u)).take (64 - u)).length = 64 - u := by simp; omega
  unfold laid
  have e0 : tl.drop (u + (64 - u)) = [] := List.drop_of_length_le (by omega)
  rw [hl, e0, List.append_nil, ht, ← List.drop_drop]
  have := List.take_add (l := all.drop (64 * k)) (i := u) (j := 64 - u)
  rw [show u + (64 - u) = 64 by omega] at this
  rw [this]
theorem fill_rest (all tl : List Int) (k u : Nat) (ht : tl.take u = (all.drop (64 * k)).take u) :
    (laid tl u (all.drop (64 * k + u))).take (all.length - 64 * k) = all.drop (64 * k) := by
  have e : (all.drop (64 * k)).take u ++ all.drop (64 * k + u) = all.drop (64 * k) := by
    rw [← List.drop_drop, List.take_append_drop]
  unfold laid
  rw [ht, e, List.take_append_of_le_length (by simp), List.take_of_length_le (by simp)]
theorem laid_all (xs ys : List Int) (s : Nat) (h1 : AllB xs) (h2 : AllB ys) : AllB (laid xs s ys) := allB_mem fun x hx => by
  simp only [laid, List.mem_append] at hx
  rcases hx with (hx | hx) | hx
  · obtain ⟨j, hj, rfl⟩ := List.getElem_of_mem (List.mem_of_mem_take hx)
    have := h1 j; simpa [gb, List.getD, hj] using this
  · obtain ⟨j, hj, rfl⟩ := List.getElem_of_mem hx
    have := h2 j; simpa [gb, List.getD, hj] using this
  · obtain ⟨j, hj, rfl⟩ := List.getElem_of_mem (List.mem_of_mem_drop hx)
    have := h1 j; simpa [gb, List.getD, hj] using this
theorem allB_sub {xs ys : List Int} (h : AllB xs) (hs : ∀ x ∈ ys, x ∈ xs) : AllB ys := allB_mem fun x hx => by
  obtain ⟨j, hj, rfl⟩ := List.getElem_of_mem (hs x hx)
  have := h j; simpa [gb, List.getD, hj] using this
theorem allB_drop {xs : List Int} (h : AllB xs) (k : Nat) : AllB (xs.drop k) := allB_sub h fun _ hx => List.mem_of_mem_drop hx
theorem allB_tk {xs : List Int} (h : AllB xs) (k : Nat) : AllB (xs.take k) := allB_sub h fun _ hx => List.mem_of_mem_take hx
end Go.Proofs.YtmbfccclghnaeaaDoor.mc

