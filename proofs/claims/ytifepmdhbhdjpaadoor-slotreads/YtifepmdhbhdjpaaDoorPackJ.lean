/- Texts put together (a claim holds few files). No claim of its own. -/
import Derived.Test.YtifepmdhbhdjpaaDoorPackA
import Derived.Test.YtifepmdhbhdjpaaDoorPackI
import Derived.Laws.AppendOwnNone
import Derived.Test.YtifepmdhbhdjpaaDoorPackB
import Derived.ArgAppend
import Derived.Lib.AppendZeros
import Derived.Test.YtifepmdhbhdjpaaDoorPackC
/- Rows of slices that a call has made, words of four bytes in them; 'append' of bytes and of a slice. No claim of its own. -/
namespace Go.Proofs.YtifepmdhbhdjpaaDoor
open Go.RowKit
set_option maxRecDepth 20000

/-- 'append(out, s...)' of bytes, out of the call's own -/
theorem pushs_lawG {ops : Array Oper} {rest : List Oper} {o : Oper} {a : Act} {Q : Exit → Act → World → Prop} (w : World) (hg : o.guard = none) (s x : Operand) (hop : o.op = .call { callee := .builtin .append, args := #[s, x], argTypes := #[23, 23] })
    (B : Nat) (hB : B ≤ w.heap.size) (v vy : Value) (xs ys : List Int) (hs : a.eval s = v) (hx : a.eval x = vy) (hown : Own B w v xs) (hy : Byt w vy ys) (hn : xs.length ≤ 1099511627776) (hm : ys.length ≤ 1099511627776)
    (hK : ∀ v' w', Own B w' v' (xs ++ ys) → Below B w w' → wpList Tryd.prog ops Q rest (a.put o.dst v') w') :
    wpList Tryd.prog ops Q (o :: rest) a w := by
  obtain ⟨i0, hi, hz0, hz1, hz2⟩ := info_parts info_u8
  obtain ⟨ao, cap, rfl, h1, h2, h3, h4, h5⟩ := hy
  cases ao with
  | none =>
    have hc := h4 rfl
    subst hc
    have : ys = [] := List.eq_nil_of_length_eq_zero (by omega)
    subst this
    refine wpList_append_own_none hg s x 23 hop B 5 i0 1 Tryd.underlying23 hi v xs.length _ hs hown hx (hK v w ?_ (Below.refl _ _))
    rwa [List.append_nil]
  | some ad =>
    refine wpList_append_own _ hg s x 23 hop B 5 i0 (.int .u8 0) 1 1 Tryd.underlying23 hi hz0 hz1 hz2 rfl (by decide) v xs.length _ hs hown ad ys.length cap (ys.map (Value.int .u8)) hx (by simp) ?_ ?_ (by simp only [maxLen]; omega) (by omega) hB fun v' w' h1 h2 _ => ?_
    · intro j u hj
      have hjl : j < ys.length := by have := (List.getElem?_eq_some_iff.1 hj).1; simpa using this
      obtain ⟨b, off, e, hc⟩ := h5 (by omega)
      cases e
      rw [Addr.add_mid, hc j hjl, ← hj]
      simp [gb, List.getD, hjl]
    · intro u hu
      simp only [List.mem_map] at hu
      obtain ⟨y, _, rfl⟩ := hu
      rfl
    · refine hK v' w' ?_ ?_
      · show w'.ownsRow B 5 1 v' (xs ++ ys).length ((xs ++ ys).map (Value.int .u8))
        simpa using h1
      · exact (Below.refl B w).grown h2 hB fun k hk => (World.ownsRow.lt hown k hk).1

theorem info_bytes : (Tryd.prog.info? 23).map (fun i => (i.zero, i.size, i.bytes)) = some (some (.slice none 0 0), 1, 24) := by kernel_rfl
theorem und_bytess : Tryd.prog.underlying 75 = some (.slice (Tryd.prog.elem 75)) := by kernel_rfl
theorem elem_bytess : Tryd.prog.elem 75 = 23 := by kernel_rfl

/-- v owns the slices us, in a block from B on -/
def OwnS (B : Nat) (w : World) (v : Value) (us : List Value) : Prop := w.ownsRow B 23 1 v us.length us
theorem OwnS.empty (w : World) {B : Nat} (hB : B ≤ w.heap.size) : OwnS B (w.alloc (.cells #[] 23)) (.slice (some ⟨w.heap.size, 0, none⟩) 0 0) [] :=
  World.ownsRow_made w #[] 0 hB (by simp [maxLen]) (by simp)
theorem OwnS.at_ {B : Nat} {w : World} {v : Value} {us : List Value} (h : OwnS B w v us) (hp : 0 < us.length) :
    ∃ g cap cur, v = .slice (some ⟨g, 0, none⟩) us.length cap ∧ us.length ≤ cap ∧ cap ≤ 9223372036854775807 ∧ B ≤ g ∧ w.heap[g]? = some (.cells cur 23 (0, 0)) ∧ ∀ t u, us[t]? = some u → w.cell? ⟨g, t, none⟩ = some u := by
  rcases h.2 with ⟨rfl, hn⟩ | ⟨g, cap, cur, rfl, hg, hb, hc, hm, hs, ht⟩
  · omega
  · refine ⟨g, cap, cur, rfl, hc, by simpa [maxLen] using hm, hg, hb, fun t u hu => ?_⟩
    have := World.ownsRow.cells h (g := g) rfl t u hu
    rwa [Addr.add_lit, Nat.zero_add] at this
theorem OwnS.below {B : Nat} {w w' : World} {v : Value} {us : List Value} (h : OwnS B w v us) (hb : Below w.heap.size w w') : OwnS B w' v us :=
  World.ownsRow.kept (row := none) h ⟨hb.os, hb.tape, hb.output, hb.size, fun j hj _ => hb.block j hj⟩ (by cases hv : v.ownBlock <;> simp)

/-- u is a slice of the four bytes x, which lie below B or in a block of bytes -/
def Wrd4 (B : Nat) (w : World) (u : Value) (x : List Int) : Prop :=
  ∃ b off cap, u = .slice (some ⟨b, off, none⟩) 4 cap ∧ 4 ≤ cap ∧ cap ≤ 9223372036854775807 ∧ (b < B ∨ ∃ cur f, w.heap[b]? = some (.cells cur 5 f)) ∧ ∀ j, j < 4 → w.cell? ⟨b, off + j, none⟩ = some (.int .u8 (gb x j))
theorem Wrd4.byt {B : Nat} {w : World} {u : Value} {x : List Int} (h : Wrd4 B w u x) (hx : Wd x) : Byt w u x := by
  obtain ⟨b, off, cap, rfl, h1, h2, _, h4⟩ := h
  exact ⟨some ⟨b, off, none⟩, cap, by rw [hx.1], by rw [hx.1]; exact h1, h2, hx.2, (by intro h; cases h), fun _ => ⟨b, off, rfl, fun t ht => h4 t (by rw [hx.1] at ht; exact ht)⟩⟩
theorem Wrd4.below {B : Nat} {w w' : World} {u : Value} {x : List Int} (h : Wrd4 B w u x) (hb : Below w.heap.size w w') : Wrd4 B w' u x := by
  obtain ⟨b, off, cap, rfl, h1, h2, h3, h4⟩ := h
  have hlt : b < w.heap.size := World.block_lt_of_cell? w _ (h4 0 (by omega))
  refine ⟨b, off, cap, rfl, h1, h2, ?_, fun j hj => by rw [hb.cell hlt]; exact h4 j hj⟩
  rw [hb.block b hlt]; exact h3
/-- it lasts when a row of slices of the call's own grows -/
theorem Wrd4.grown {B : Nat} {w w' : World} {u v : Value} {x : List Int} {us : List Value} (h : Wrd4 B w u x) (ho : OwnS B w v us) (hg : w.grownBy w' v.ownBlock) : Wrd4 B w' u x := by
  obtain ⟨b, off, cap, rfl, h1, h2, h3, h4⟩ := h
  have hlt : b < w.heap.size := World.block_lt_of_cell? w _ (h4 0 (by omega))
  have hne : some b ≠ v.ownBlock := by
    rcases ho.2 with ⟨rfl, _⟩ | ⟨g, cap, cur, rfl, hgB, hb, _⟩
    · simp [Value.ownBlock]
    · intro e
      simp [Value.ownBlock] at e
      subst e
      rcases h3 with h3 | ⟨cur', f, h3⟩
      · omega
      · rw [hb] at h3
        injection h3 with h3
        injection h3 with _ h5
        exact absurd h5 (by decide)
  have e := hg.block b hlt hne
  refine ⟨b, off, cap, rfl, h1, h2, by rw [e]; exact h3, fun j hj => ?_⟩
  rw [World.cell?_of_block (w := w) (w' := w') (a := ⟨b, off + j, none⟩) e]; exact h4 j hj
theorem Own.wrd4 {B B' : Nat} {w : World} {v : Value} {x : List Int} (h : Own B' w v x) (hx : Wd x) : Wrd4 B w v x := by
  have hb := h.byt hx.2
  rcases h.2 with ⟨rfl, hn⟩ | ⟨g, cap, cur, rfl, hg, hbb, hc, hm, hs, ht⟩
  · rw [hx.1] at hn; omega
  · obtain ⟨ao, cap', e, h1, h2, h3, h4, h5⟩ := hb
    obtain ⟨b, off, rfl, hcell⟩ := h5 (by rw [hx.1]; omega)
    injection e with e1 e2 e3
    injection e1 with e1
    injection e1 with e4 e5
    subst e4 e3 e5
    refine ⟨g, 0, cap, by rw [hx.1], by rw [← hx.1]; exact h1, h2, Or.inr ⟨cur, (0, 0), hbb⟩, fun j hj => hcell j (by rw [hx.1]; exact hj)⟩

section
variable {ops : Array Oper} {rest : List Oper} {o : Oper} {a : Act} {Q : Exit → Act → World → Prop}
/-- 'append(w, u)' of a slice, w of the call's own -/
theorem push_lawS (w0 : World) (hg : o.guard = none) (s x : Operand) (hop : o.op = .call { callee := .builtin .append, args := #[s, x], argTypes := #[75, 75] })
    (B : Nat) (hB : B ≤ w0.heap.size) (v : Value) (us : List Value) (u : Value) (hu : u.oneCell' = true) (hs : a.eval s = v) (hx : a.eval x = .slice (some ⟨w0.heap.size, 0, none⟩) 1 1) (hown : OwnS B w0 v us) (hn : us.length ≤ 1000)
    (hK : ∀ v' w', OwnS B w' v' (us ++ [u]) → Below B w0 w' → (∀ u' y, Wrd4 B w0 u' y → Wrd4 B w' u' y) → wpList Tryd.prog ops Q rest (a.put o.dst v') w') :
    wpList Tryd.prog ops Q (o :: rest) a (w0.alloc (.cells #[u] 23)) := by
  obtain ⟨i0, hi, hz0, hz1, hz2⟩ := info_parts info_bytes
  have hown2 : OwnS B (w0.alloc (.cells #[u] 23)) v us := World.ownsRow.alloc hown _
  refine wpList_append_own _ hg s x 75 hop B 23 i0 (.slice none 0 0) 1 24 Tryd.underlying75 hi hz0 hz1 hz2 rfl (by decide) v us.length _ hs hown2 ⟨w0.heap.size, 0, none⟩ 1 1 [u] hx rfl ?_ ?_ (by simp only [maxLen]; omega) (by omega) (by simp; omega) fun v' w' h1 h2 _ => ?_
  · intro j y hj
    match j, hj with
    | 0, hj => simp at hj; subst hj; simp [Addr.add]
  · intro y hy; simp at hy; subst hy; exact hu
  · refine hK v' w' ?_ ?_ fun u' y h => (h.below ((Below.refl _ _).alloc (Nat.le_refl _) _)).grown hown2 h2
    · show w'.ownsRow B 23 1 v' (us ++ [u]).length (us ++ [u])
      simpa using h1
    · refine ((Below.refl B w0).alloc hB _).grown h2 (by simp; omega) fun k hk => ?_
      exact (World.ownsRow.lt hown k hk).1
end

section
variable {ops : Array Oper} {o : Oper} {a : Act} {Q : Exit → Act → World → Prop} {K : Act → World → Prop} {E : Prop}
/-- '[]byte{x0, x1, x2, x3}' in a region that draws its order -/
theorem step_build4 (w : World) (hg : o.guard = none) (d : Option Tmp) (hd : o.dst = d) (x0 x1 x2 x3 : Operand) (hop : o.op = Op.buildSlice 23 4 #[(0, x0), (1, x1), (2, x2), (3, x3)]) (c0 c1 c2 c3 : Int)
    (h0 : a.eval x0 = .int .u8 c0) (h1 : a.eval x1 = .int .u8 c1) (h2 : a.eval x2 = .int .u8 c2) (h3 : a.eval x3 = .int .u8 c3)
    (hK : ∀ w', Ar w' w.heap.size 0 .u8 [c0, c1, c2, c3] → Below w.heap.size w w' → w.heap.size < w'.heap.size → K (a.put d (.slice (some ⟨w.heap.size, 0, none⟩) 4 4)) w') : if Region.wanted o (yielded ops a.tmps) = true then Oper.wp Tryd.prog o a w K Q else E := by
  have hw : Region.wanted o (yielded ops a.tmps) = true := by simp [Region.wanted, hg]
  rw [if_pos hw]
  subst hd
  have hrun : (Instr.buildSlice 23 4 #[(0, .int .u8 c0), (1, .int .u8 c1), (2, .int .u8 c2), (3, .int .u8 c3)]).run Tryd.prog w = .ok (.slice (some ⟨w.heap.size, 0, none⟩) 4 4) (w.alloc (.cells (ints .u8 [c0, c1, c2, c3]) 5)) := by kernel_rfl
  unfold Oper.wp execOp
  simp only [hop, List.map_toArray, List.map_cons, List.map_nil, h0, h1, h2, h3, Sem.run_bind, Sem.run_pure, Result.andThen_ok, hrun]
  exact hK _ (Ar.new w _ _ _) ((Below.refl _ _).alloc (Nat.le_refl _) _) (by simp)
end
end Go.Proofs.YtifepmdhbhdjpaaDoor

/- Wrapping on lists of bytes: a step, its undoing, all steps, each undoes the other. No claim of its own. -/
namespace Go.Proofs.YtifepmdhbhdjpaaDoor.wr
open Go.RowKit
set_option maxRecDepth 20000

/-- a number as eight bytes, big endian -/
def b8 (t : Nat) : List Int := (le (t : Int) 8).reverse
theorem b8_len (t : Nat) : (b8 t).length = 8 := by simp [b8, le_len]
theorem b8_all (t : Nat) : AllB (b8 t) := allB_reverse (le_all _ _)
/-- the first eight bytes, the part at i, and both put anew -/
def hd (s : List Int) : List Int := s.take 8
def pt (s : List Int) (i : Nat) : List Int := (s.take (i + 8)).drop i
def put (s : List Int) (i : Nat) (a r : List Int) : List Int := a ++ (s.take i).drop 8 ++ r ++ s.drop (i + 8)

theorem allB_app {xs ys : List Int} (hx : AllB xs) (hy : AllB ys) : AllB (xs ++ ys) := allB_mem fun x h => by
  rcases List.mem_append.1 h with h | h
  · obtain ⟨i, _, rfl⟩ := mem_gb h; exact hx i
  · obtain ⟨i, _, rfl⟩ := mem_gb h; exact hy i
theorem allB_sub {xs ys : List Int} (hx : AllB xs) (h : ∀ y ∈ ys, y ∈ xs) : AllB ys := allB_mem fun y hy => by
  obtain ⟨i, _, rfl⟩ := mem_gb (h y hy); exact hx i
theorem allB_tk {xs : List Int} (hx : AllB xs) (k : Nat) : AllB (xs.take k) := allB_sub hx fun _ h => List.mem_of_mem_take h
theorem allB_dr {xs : List Int} (hx : AllB xs) (k : Nat) : AllB (xs.drop k) := allB_sub hx fun _ h => List.mem_of_mem_drop h

theorem hd_len (s : List Int) (h : 8 ≤ s.length) : (hd s).length = 8 := by simp [hd]; omega
theorem pt_len (s : List Int) (i : Nat) (h : i + 8 ≤ s.length) : (pt s i).length = 8 := by simp [pt]; omega
theorem hd_all (s : List Int) (h : AllB s) : AllB (hd s) := allB_tk h 8
theorem pt_all (s : List Int) (i : Nat) (h : AllB s) : AllB (pt s i) := allB_dr (allB_tk h _) _
theorem put_len (s : List Int) (i : Nat) (a r : List Int) (ha : a.length = 8) (hr : r.length = 8) (h8 : 8 ≤ i) (hi : i + 8 ≤ s.length) : (put s i a r).length = s.length := by
  simp [put, ha, hr]; omega
theorem put_all (s : List Int) (i : Nat) (a r : List Int) (hs : AllB s) (ha : AllB a) (hr : AllB r) : AllB (put s i a r) :=
  allB_app (allB_app (allB_app ha (allB_dr (allB_tk hs _) _)) hr) (allB_dr hs _)
theorem hd_put (s : List Int) (i : Nat) (a r : List Int) (ha : a.length = 8) : hd (put s i a r) = a := by
  unfold hd put
  rw [List.append_assoc, List.append_assoc, List.take_append_of_le_length (by omega), List.take_of_length_le (by omega)]
theorem mid_len (s : List Int) (i : Nat) (hi : i + 8 ≤ s.length) : ((s.take i).drop 8).length = i - 8 := by simp; omega
theorem front_len (s : List Int) (i : Nat) (a : List Int) (ha : a.length = 8) (h8 : 8 ≤ i) (hi : i + 8 ≤ s.length) : (a ++ (s.take i).drop 8).length = i := by
  rw [List.length_append, mid_len s i hi]; omega
theorem take_put (s : List Int) (i : Nat) (a r : List Int) (ha : a.length = 8) (h8 : 8 ≤ i) (hi : i + 8 ≤ s.length) : (put s i a r).take i = a ++ (s.take i).drop 8 := by
  have hl := front_len s i a ha h8 hi
  unfold put
  rw [List.append_assoc, List.take_append_of_le_length (by omega), List.take_of_length_le (by omega)]
theorem take_put8 (s : List Int) (i : Nat) (a r : List Int) (ha : a.length = 8) (hr : r.length = 8) (h8 : 8 ≤ i) (hi : i + 8 ≤ s.length) : (put s i a r).take (i + 8) = a ++ (s.take i).drop 8 ++ r := by
  have hl := front_len s i a ha h8 hi
  have hl2 : (a ++ (s.take i).drop 8 ++ r).length = i + 8 := by rw [List.length_append, hl, hr]
  unfold put
  rw [List.take_append_of_le_length (by omega), List.take_of_length_le (by omega)]
theorem drop_put8 (s : List Int) (i : Nat) (a r : List Int) (ha : a.length = 8) (hr : r.length = 8) (h8 : 8 ≤ i) (hi : i + 8 ≤ s.length) : (put s i a r).drop (i + 8) = s.drop (i + 8) := by
  have hl := front_len s i a ha h8 hi
  have hl2 : (a ++ (s.take i).drop 8 ++ r).length = i + 8 := by rw [List.length_append, hl, hr]
  unfold put
  rw [List.drop_append_of_le_length (by omega), List.drop_eq_nil_of_le (by omega), List.nil_append]
theorem pt_put (s : List Int) (i : Nat) (a r : List Int) (ha : a.length = 8) (hr : r.length = 8) (h8 : 8 ≤ i) (hi : i + 8 ≤ s.length) : pt (put s i a r) i = r := by
  have hl := front_len s i a ha h8 hi
  unfold pt
  rw [take_put8 s i a r ha hr h8 hi, List.drop_append_of_le_length (by omega), List.drop_eq_nil_of_le (by omega), List.nil_append]
theorem put_put (s : List Int) (i : Nat) (a r a' r' : List Int) (ha : a.length = 8) (hr : r.length = 8) (h8 : 8 ≤ i) (hi : i + 8 ≤ s.length) : put (put s i a r) i a' r' = put s i a' r' := by
  have e : ((put s i a r).take i).drop 8 = (s.take i).drop 8 := by
    rw [take_put s i a r ha h8 hi, List.drop_append_of_le_length (by omega), List.drop_eq_nil_of_le (by omega), List.nil_append]
  show a' ++ ((put s i a r).take i).drop 8 ++ r' ++ (put s i a r).drop (i + 8) = _
  rw [e, drop_put8 s i a r ha hr h8 hi]
  rfl
theorem put_same (s : List Int) (i : Nat) (h8 : 8 ≤ i) : put s i (hd s) (pt s i) = s := by
  have e1 : hd s ++ (s.take i).drop 8 = s.take i := by
    have h := List.take_append_drop 8 (s.take i)
    rwa [List.take_take, show min 8 i = 8 by omega] at h
  have e2 : s.take i ++ pt s i = s.take (i + 8) := by
    have h := List.take_append_drop i (s.take (i + 8))
    rwa [List.take_take, show min i (i + 8) = i by omega] at h
  unfold put
  rw [e1, e2, List.take_append_drop]

/-- one step, and its undoing -/
def fw (key : List Int) (t i : Nat) (s : List Int) : List Int :=
  put s i (xorl ((encr key (hd s ++ pt s i)).take 8) (b8 t)) ((encr key (hd s ++ pt s i)).drop 8)
def bk (key : List Int) (t i : Nat) (s : List Int) : List Int :=
  put s i ((decr key (xorl (hd s) (b8 t) ++ pt s i)).take 8) ((decr key (xorl (hd s) (b8 t) ++ pt s i)).drop 8)
theorem two_blk (a r : List Int) (ha : a.length = 8) (hr : r.length = 8) (ba : AllB a) (br : AllB r) : Blk (a ++ r) := ⟨by rw [List.length_append]; omega, allB_app ba br⟩
theorem half (x : List Int) (h : Blk x) : ((x.take 8).length = 8 ∧ AllB (x.take 8)) ∧ (x.drop 8).length = 8 ∧ AllB (x.drop 8) :=
  ⟨⟨by have := h.1; simp; omega, allB_tk h.2 8⟩, by have := h.1; simp; omega, allB_dr h.2 8⟩
theorem xb (a : List Int) (t : Nat) (ha : a.length = 8) (ba : AllB a) : (xorl a (b8 t)).length = 8 ∧ AllB (xorl a (b8 t)) :=
  ⟨by rw [xorl_len _ _ (by rw [ha, b8_len]), ha], xorl_all _ _ (by rw [ha, b8_len]) ba (b8_all t)⟩
theorem take_two (a r : List Int) (ha : a.length = 8) : (a ++ r).take 8 = a ∧ (a ++ r).drop 8 = r :=
  ⟨by rw [List.take_append_of_le_length (by omega), List.take_of_length_le (by omega)], by rw [List.drop_append_of_le_length (by omega), List.drop_eq_nil_of_le (by omega), List.nil_append]⟩

/-- what a step keeps -/
def Fit (L : Nat) (s : List Int) : Prop := s.length = L ∧ AllB s
theorem in_blk (s : List Int) (L i : Nat) (hs : Fit L s) (h8 : 8 ≤ i) (hi : i + 8 ≤ L) : Blk (hd s ++ pt s i) :=
  two_blk _ _ (hd_len s (by have := hs.1; omega)) (pt_len s i (by have := hs.1; omega)) (hd_all s hs.2) (pt_all s i hs.2)
theorem out_blk (s : List Int) (L t i : Nat) (hs : Fit L s) (h8 : 8 ≤ i) (hi : i + 8 ≤ L) : Blk (xorl (hd s) (b8 t) ++ pt s i) := by
  have := xb (hd s) t (hd_len s (by have := hs.1; omega)) (hd_all s hs.2)
  exact two_blk _ _ this.1 (pt_len s i (by have := hs.1; omega)) this.2 (pt_all s i hs.2)
theorem fw_fit (key : List Int) (hk : key.length = 32) (hka : AllB key) (s : List Int) (L t i : Nat) (hs : Fit L s) (h8 : 8 ≤ i) (hi : i + 8 ≤ L) : Fit L (fw key t i s) := by
  have hx := half _ (encr_blk key hk hka _ (in_blk s L i hs h8 hi))
  have hy := xb _ t hx.1.1 hx.1.2
  exact ⟨(put_len s i _ _ hy.1 hx.2.1 h8 (by have := hs.1; omega)).trans hs.1, put_all s i _ _ hs.2 hy.2 hx.2.2⟩
theorem bk_fit (key : List Int) (hk : key.length = 32) (hka : AllB key) (s : List Int) (L t i : Nat) (hs : Fit L s) (h8 : 8 ≤ i) (hi : i + 8 ≤ L) : Fit L (bk key t i s) := by
  have hx := half _ (decr_blk key hk hka _ (out_blk s L t i hs h8 hi))
  exact ⟨(put_len s i _ _ hx.1.1 hx.2.1 h8 (by have := hs.1; omega)).trans hs.1, put_all s i _ _ hs.2 hx.1.2 hx.2.2⟩
theorem bk_fw (key : List Int) (hk : key.length = 32) (hka : AllB key) (s : List Int) (L t i : Nat) (hs : Fit L s) (h8 : 8 ≤ i) (hi : i + 8 ≤ L) : bk key t i (fw key t i s) = s := by
  have hb := in_blk s L i hs h8 hi
  have hl : i + 8 ≤ s.length := by have := hs.1; omega
  have hx := half _ (encr_blk key hk hka _ hb)
  have hy := xb _ t hx.1.1 hx.1.2
  unfold bk
  have e1 : hd (fw key t i s) = xorl ((encr key (hd s ++ pt s i)).take 8) (b8 t) := hd_put s i _ _ hy.1
  have e2 : pt (fw key t i s) i = (encr key (hd s ++ pt s i)).drop 8 := pt_put s i _ _ hy.1 hx.2.1 h8 hl
  rw [e1, e2, xorl_back _ _ (by rw [hx.1.1, b8_len]) hx.1.2, List.take_append_drop, decr_encr key hk hka _ hb]
  have tt := take_two (hd s) (pt s i) (hd_len s (by omega))
  rw [tt.1, tt.2]
  unfold fw
  rw [put_put s i _ _ _ _ hy.1 hx.2.1 h8 hl, put_same s i h8]
theorem fw_bk (key : List Int) (hk : key.length = 32) (hka : AllB key) (s : List Int) (L t i : Nat) (hs : Fit L s) (h8 : 8 ≤ i) (hi : i + 8 ≤ L) : fw key t i (bk key t i s) = s := by
  have hb := out_blk s L t i hs h8 hi
  have hl : i + 8 ≤ s.length := by have := hs.1; omega
  have hx := half _ (decr_blk key hk hka _ hb)
  have hh := hd_len s (by omega)
  have hy := xb (hd s) t hh (hd_all s hs.2)
  unfold fw
  have e1 : hd (bk key t i s) = (decr key (xorl (hd s) (b8 t) ++ pt s i)).take 8 := hd_put s i _ _ hx.1.1
  have e2 : pt (bk key t i s) i = (decr key (xorl (hd s) (b8 t) ++ pt s i)).drop 8 := pt_put s i _ _ hx.1.1 hx.2.1 h8 hl
  rw [e1, e2, List.take_append_drop, encr_decr key hk hka _ hb]
  have tt := take_two (xorl (hd s) (b8 t)) (pt s i) hy.1
  rw [tt.1, tt.2, xorl_back _ _ (by rw [hh, b8_len]) (hd_all s hs.2)]
  unfold bk
  rw [put_put s i _ _ _ _ hx.1.1 hx.2.1 h8 hl, put_same s i h8]

/-- which part the step t (from 1 on) is about, of n -/
def ix (n t : Nat) : Nat := 8 * ((t - 1) % n + 1)
theorem ix_bd (n t : Nat) (hn : 0 < n) : 8 ≤ ix n t ∧ ix n t + 8 ≤ 8 * n + 8 := by
  have := Nat.mod_lt (t - 1) hn
  unfold ix
  omega
/-- t steps of n parts; k steps undone, from T on down -/
def ws (key : List Int) (n : Nat) (s : List Int) : Nat → List Int
  | 0 => s
  | t + 1 => fw key (t + 1) (ix n (t + 1)) (ws key n s t)
def us (key : List Int) (n : Nat) (s : List Int) (T : Nat) : Nat → List Int
  | 0 => s
  | k + 1 => bk key (T - k) (ix n (T - k)) (us key n s T k)
theorem ws_fit (key : List Int) (hk : key.length = 32) (hka : AllB key) (n : Nat) (hn : 0 < n) (s : List Int) (hs : Fit (8 * n + 8) s) (t : Nat) : Fit (8 * n + 8) (ws key n s t) := by
  induction t with
  | zero => exact hs
  | succ t ih => exact fw_fit key hk hka _ _ _ _ ih (ix_bd n _ hn).1 (ix_bd n _ hn).2
theorem us_fit (key : List Int) (hk : key.length = 32) (hka : AllB key) (n : Nat) (hn : 0 < n) (s : List Int) (hs : Fit (8 * n + 8) s) (T k : Nat) : Fit (8 * n + 8) (us key n s T k) := by
  induction k with
  | zero => exact hs
  | succ k ih => exact bk_fit key hk hka _ _ _ _ ih (ix_bd n _ hn).1 (ix_bd n _ hn).2
theorem us_ws (key : List Int) (hk : key.length = 32) (hka : AllB key) (n : Nat) (hn : 0 < n) (s : List Int) (hs : Fit (8 * n + 8) s) (T : Nat) : ∀ k, k ≤ T → us key n (ws key n s T) T k = ws key n s (T - k)
  | 0, _ => rfl
  | k + 1, h => by
    rw [us, us_ws key hk hka n hn s hs T k (by omega)]
    obtain ⟨t, ht⟩ : ∃ t, T - k = t + 1 := ⟨T - k - 1, by omega⟩
    rw [show T - (k + 1) = t by omega, ht, ws]
    exact bk_fw key hk hka _ _ _ _ (ws_fit key hk hka n hn s hs t) (ix_bd n _ hn).1 (ix_bd n _ hn).2
theorem ws_us (key : List Int) (hk : key.length = 32) (hka : AllB key) (n : Nat) (hn : 0 < n) (s : List Int) (hs : Fit (8 * n + 8) s) (T : Nat) : ∀ t, t ≤ T → ws key n (us key n s T T) t = us key n s T (T - t)
  | 0, _ => rfl
  | t + 1, h => by
    rw [ws, ws_us key hk hka n hn s hs T t (by omega)]
    obtain ⟨k, hk'⟩ : ∃ k, T - t = k + 1 := ⟨T - t - 1, by omega⟩
    rw [show T - (t + 1) = k by omega, hk', us, show T - k = t + 1 by omega]
    exact fw_bk key hk hka _ _ _ _ (us_fit key hk hka n hn s hs T k) (ix_bd n _ hn).1 (ix_bd n _ hn).2

/-- eight bytes 0xa6 -/
def a6 : List Int := List.replicate 8 166
theorem a6_len : a6.length = 8 := rfl
theorem a6_all : AllB a6 := allB_mem (by decide)
/-- what is wrapped; what is unwrapped, the first eight bytes with it -/
def wrapped (key b : List Int) (n : Nat) : List Int := ws key n (a6 ++ b) (6 * n)
def unwr (key c : List Int) (n : Nat) : List Int := us key n c (6 * n) (6 * n)
theorem a6_fit (b : List Int) (n : Nat) (hb : b.length = 8 * n) (ha : AllB b) : Fit (8 * n + 8) (a6 ++ b) := ⟨by rw [List.length_append, a6_len, hb]; omega, allB_app a6_all ha⟩
theorem wrapped_fit (key : List Int) (hk : key.length = 32) (hka : AllB key) (b : List Int) (n : Nat) (hn : 0 < n) (hb : b.length = 8 * n) (ha : AllB b) : Fit (8 * n + 8) (wrapped key b n) := ws_fit key hk hka n hn _ (a6_fit b n hb ha) _
theorem unwr_fit (key : List Int) (hk : key.length = 32) (hka : AllB key) (c : List Int) (n : Nat) (hn : 0 < n) (hc : Fit (8 * n + 8) c) : Fit (8 * n + 8) (unwr key c n) := us_fit key hk hka n hn c hc _ _
theorem unwr_wrapped (key : List Int) (hk : key.length = 32) (hka : AllB key) (b : List Int) (n : Nat) (hn : 0 < n) (hb : b.length = 8 * n) (ha : AllB b) : unwr key (wrapped key b n) n = a6 ++ b := by
  have := us_ws key hk hka n hn _ (a6_fit b n hb ha) (6 * n) (6 * n) (Nat.le_refl _)
  rwa [Nat.sub_self] at this
theorem wrapped_unwr (key : List Int) (hk : key.length = 32) (hka : AllB key) (c : List Int) (n : Nat) (hn : 0 < n) (hc : Fit (8 * n + 8) c) (h : hd (unwr key c n) = a6) : wrapped key ((unwr key c n).drop 8) n = c := by
  have e : a6 ++ (unwr key c n).drop 8 = unwr key c n := by rw [← h]; exact List.take_append_drop 8 _
  unfold wrapped
  rw [e]
  have := ws_us key hk hka n hn c hc (6 * n) (6 * n) (Nat.le_refl _)
  rwa [Nat.sub_self] at this
end Go.Proofs.YtifepmdhbhdjpaaDoor.wr

/- Rows that a call hands back as its own; appending to a full slice, and noughts to none; copying into a part of a row, all else staying. No claim of its own. -/
namespace Go.Proofs.YtifepmdhbhdjpaaDoor.wr
open Go.RowKit
set_option maxRecDepth 20000

theorem ownN_own {B : Nat} {w : World} {g n : Nat} {xs : List Int} (h : OwnN B w g n xs) (hl : xs.length = n) : Own B w (.slice (some ⟨g, 0, none⟩) n n) xs := by
  show w.ownsRow B 5 1 _ xs.length _
  rw [hl]; exact h.2.2

set_option maxHeartbeats 2000000 in
theorem xor_own (va vb : Value) (xs ys : List Int) (w : World) (ha : Byt w va xs) (hb : Byt w vb ys) (hl : xs.length = ys.length) (hmax : xs.length ≤ 1048576) :
    Calls Tryd.prog 57 #[va, vb] w fun e w' => ∃ v, e = .returned (.tuple #[v, .int .i64 0]) ∧ Own w.heap.size w' v (xorl xs ys) ∧ Below w.heap.size w w' := by
  obtain ⟨ao, ca, rfl, ha1, ha2, ha3, -, ha5⟩ := ha
  obtain ⟨bo, cb, rfl, hb1, hb2, hb3, -, hb5⟩ := hb
  have HL : Hid (xs.length = ys.length) := hl
  have HA5 : Hid (0 < xs.length → ∃ b off, ao = some ⟨b, off, none⟩ ∧ ∀ t, t < xs.length → w.cell? ⟨b, off + t, none⟩ = some (.int .u8 (gb xs t))) := ha5
  have HB5 : Hid (0 < xs.length → ∃ b off, bo = some ⟨b, off, none⟩ ∧ ∀ t, t < xs.length → w.cell? ⟨b, off + t, none⟩ = some (.int .u8 (gb ys t))) := by
    rw [hl]; exact hb5
  have HA : Hid (AllB xs) := ha3
  have HB : Hid (AllB ys) := hb3
  rw [← hl] at hb1 ⊢
  clear hb5 ha5 ha3 hb3 hl
  have hz := xorl_len xs ys HL.out
  have HZ : Hid ((xorl xs ys).length = xs.length) := hz
  clear hz
  go_enter Tryd.func57, Tryd.ntmps57
  go_wp2_with (at_make; refine make_law _ rfl (.tmp 14) (.tmp 14) rfl w.heap.size (Nat.le_refl _) _ xs.length rfl rfl rfl (by omega) ?_; intro w1 hown hbel hlt)
  go_loopw [18] (fun i wr => ∃ k : Nat, k ≤ xs.length ∧ i = .int .i64 k ∧ OwnN w.heap.size wr w.heap.size xs.length (part (xorl xs ys) k) ∧ Below w.heap.size w wr) (fun i _ => xs.length - (intOf i).toNat)
  case atStart => exact ⟨0, Nat.zero_le _, rfl, by rw [part_zero, HZ.out]; exact hown, hbel⟩
  case round =>
    clear hown hbel
    obtain ⟨k, hk, rfl, hown, hbel⟩ := hrel
    by_cases hlt' : k < xs.length
    · obtain ⟨b, off, rfl, hca⟩ := HA5.out (by omega)
      obtain ⟨b', off', rfl, hcb⟩ := HB5.out (by omega)
      have n1 := World.block_lt_of_cell? w _ (hca k hlt')
      have n2 := World.block_lt_of_cell? w _ (hcb k hlt')
      have c1 : wr.cell? ⟨b, off + k, none⟩ = some (.int .u8 (gb xs k)) := (hbel.cell n1).trans (hca k hlt')
      have c2 : wr.cell? ⟨b', off' + k, none⟩ = some (.int .u8 (gb ys k)) := (hbel.cell n2).trans (hcb k hlt')
      have lk : (k : Int) < (xs.length : Int) := by omega
      have lk0 : (0 : Int) ≤ (k : Int) := by omega
      have c3 := hown.cell hlt'
      have c4 := hown.free k
      have hx : bits .xor .u8 (gb xs k) (gb ys k) = xr (gb xs k) (gb ys k) := xr_of _ _ (HA.out k) (HB.out k)
      have hown' : OwnN w.heap.size (wr.setCell ⟨w.heap.size, k, none⟩ (.int .u8 (xr (gb xs k) (gb ys k)))) w.heap.size xs.length (part (xorl xs ys) (k + 1)) := by
        have h := hown.set k (gb (xorl xs ys) k)
        rw [part_set _ k (by rw [HZ.out]; exact hlt'), xorl_gb xs ys HL.out k hlt'] at h
        exact h
      clear hca hcb
      go_wp2
      go_region
      all_goals go_wp2
      all_goals
        go_roundw
        case rel => exact ⟨k + 1, by omega, by go_num, hown'.drew 1, (hbel.setCell (Nat.le_refl _) _).drew⟩
        case measure => simp [intOf]; omega
    · have hks : k = xs.length := by omega
      subst hks
      have hown2 : OwnN w.heap.size wr w.heap.size xs.length (xorl xs ys) := by
        have := hown; rw [← HZ.out, part_end, HZ.out] at this; exact this
      go_wp2
      go_ret2
      exact ⟨_, rfl, ownN_own hown2 HZ.out, hbel⟩

set_option maxHeartbeats 1000000 in
theorem rfill_own (x n : Int) (w : World) :
    Calls Tryd.prog 23 #[.int .u8 x, .int .i64 n] w fun e w' => ∃ v, e = .returned v ∧ Own w.heap.size w' v (List.replicate (clamp n 65536) x) ∧ Below w.heap.size w w' := by
  have hs : ((clamp n 65536 : Nat) : Int) = min (max n 0) 65536 := by unfold clamp; omega
  generalize hsd : clamp n 65536 = s at hs
  have HS : Hid ((s : Int) = min (max n 0) 65536) := hs
  have hs1 : s ≤ 65536 := by omega
  clear hsd hs
  go_enter Tryd.func23, Tryd.ntmps23
  go_wp2
  go_loopw [5, 6] (fun v i wr => ∃ k : Nat, k ≤ s ∧ i = .int .i64 k ∧ Own w.heap.size wr v (List.replicate k x) ∧ Below w.heap.size w wr) (fun _ i _ => s - (intOf i).toNat)
  case atStart => exact ⟨0, Nat.zero_le _, rfl, Own.empty w (Nat.le_refl _), (Below.refl _ _).alloc (Nat.le_refl _) _⟩
  case round =>
    obtain ⟨k, hk, rfl, hown, hbel⟩ := hrel
    have hsz := hbel.size
    by_cases hlt : k < s
    · have h1 : (k : Int) < n := by have := HS.out; omega
      have h2 : (k : Int) < 65536 := by omega
      go_wp2_with (at_builtin; refine push_law wr rfl (.tmp 17) (.tmp 19) rfl w.heap.size (by omega) _ _ x rfl rfl hown (by simp; omega) ?_; intro v' w1 hown' hbel')
      rw [← List.replicate_succ'] at hown'
      go_roundw
      case rel => exact ⟨k + 1, by omega, by go_num, hown', hbel.trans hbel'⟩
      case measure => simp [intOf]; omega
    · have hks : k = s := by omega
      subst hks
      by_cases h1 : (k : Int) < n
      · have h2 : ¬ (k : Int) < 65536 := by have := HS.out; omega
        go_wp2
        go_ret
        exact ⟨_, rfl, hown, hbel⟩
      · go_wp2
        go_ret
        exact ⟨_, rfl, hown, hbel⟩

theorem Own.below {B : Nat} {w w' : World} {v : Value} {xs : List Int} (h : Own B w v xs) (hb : Below w.heap.size w w') : Own B w' v xs :=
  World.ownsRow.kept (row := none) h ⟨hb.os, hb.tape, hb.output, hb.size, fun j hj _ => hb.block j hj⟩ (by cases hv : v.ownBlock <;> simp)
theorem Own.ar {B : Nat} {w : World} {v : Value} {xs : List Int} (h : Own B w v xs) (hp : 0 < xs.length) : ∃ g cap, v = .slice (some ⟨g, 0, none⟩) xs.length cap ∧ B ≤ g ∧ xs.length ≤ cap ∧ cap ≤ 9223372036854775807 ∧ Ar w g 0 .u8 xs := by
  have hh := h
  rcases h.2 with ⟨rfl, hn⟩ | ⟨g, cap, cur, rfl, hg, hb, hc, hm, hs, ht⟩
  · omega
  · refine ⟨g, cap, rfl, hg, hc, by simpa [maxLen] using hm, Ar.mk fun i hi => ?_⟩
    have hcell := World.ownsRow.cells hh (g := g) rfl i (.int .u8 (gb xs i)) (by simp [gb, List.getD, hi])
    rw [Addr.add_lit] at hcell
    refine ⟨by simpa using hcell, ?_⟩
    have := World.ownsRow.frozenAt hh i
    rw [Nat.zero_add]
    exact this
theorem byt_drawn {w : World} {v : Value} {xs : List Int} (h : Byt w v xs) (m : Nat) : Byt (w.drewN m) v xs := h
theorem below_drawn {B : Nat} {w w' : World} (h : Below B w w') (m : Nat) : Below B w (w'.drewN m) := by
  induction m with
  | zero => exact h
  | succ m ih => exact ih.drew
theorem own_mono {B C : Nat} {w : World} {v : Value} {xs : List Int} (h : Own B w v xs) (hc : C ≤ B) : Own C w v xs := by
  refine ⟨h.1, ?_⟩
  rcases h.2 with hn | ⟨g, cap, cur, hv, hg, hr⟩
  · exact .inl hn
  · exact .inr ⟨g, cap, cur, hv, by omega, hr⟩
/-- all but one block stays -/
theorem byt_but {w w' : World} {v : Value} {xs : List Int} {g : Nat} (h : Byt w v xs) (hg : w.grownBy w' (some g)) (hf : v.ownBlock ≠ some g) : Byt w' v xs := by
  obtain ⟨ao, cap, rfl, h1, h2, h3, h4, h5⟩ := h
  refine ⟨ao, cap, rfl, h1, h2, h3, h4, fun hp => ?_⟩
  obtain ⟨b, off, rfl, hc⟩ := h5 hp
  refine ⟨b, off, rfl, fun t ht => ?_⟩
  have := hc t ht
  rw [World.cell?_of_block (w := w) (w' := w') (a := ⟨b, off + t, none⟩) (hg.block b (World.block_lt_of_cell? w _ this) hf)]
  exact this
theorem below_but {w w' : World} {g : Nat} (hg : w.grownBy w' (some g)) (hl : g ≤ w.heap.size) : Below g w w' :=
  (Below.refl g w).grown hg hl fun k hk => by cases hk; exact Nat.le_refl _
theorem but_cells (w : World) (b o : Nat) (vs : List Value) : w.grownBy (w.setCells b o vs) (some b) := by
  have h : Below 0 w (w.setCells b o vs) := below_cells b (Nat.zero_le _) vs o (Below.refl _ _)
  refine ⟨h.os, h.tape, h.output, h.size, fun k hk hne => ?_⟩
  have hne' : k ≠ b := fun e => hne (by rw [e])
  clear h
  induction vs generalizing w o with
  | nil => rfl
  | cons v r ih =>
    show ((w.setCell ⟨b, o, none⟩ v).setCells b (o + 1) r).heap[k]? = _
    rw [ih _ (o + 1) (by simpa using hk)]
    exact Below.heap_setCell w ⟨b, o, none⟩ v k hne'

section
variable {ops : Array Oper} {rest : List Oper} {o : Oper} {a : Act} {Q : Exit → Act → World → Prop}
/-- 'copy(d, s)' of as many bytes as d has room for; all but d's block stays -/
theorem copy_lawW (w : World) (hg : o.guard = none) (x y : Operand) (hop : o.op = .call { callee := .builtin .copy, args := #[x, y], argTypes := #[23, 23] })
    (b p n dc : Nat) (v : Value) (xs ys : List Int) (hx : a.eval x = .slice (some ⟨b, p, none⟩) n dc) (hy : a.eval y = v) (hb : Byt w v ys) (hA : Ar w b 0 .u8 xs) (hn : ys.length = n) (hl : p + n ≤ xs.length)
    (hK : ∀ w', Ar w' b 0 .u8 (laid xs p ys) → w.grownBy w' (some b) → wpList Tryd.prog ops Q rest (a.put o.dst (.int .i64 (n : Int))) w') :
    wpList Tryd.prog ops Q (o :: rest) a w := by
  refine wpList_plain hg fun K hK' => ?_
  obtain ⟨ao, cap, rfl, h1, h2, h3, h4, h5⟩ := hb
  have e : min ys.length n = n := by omega
  have hrun := run_copyG w b p n dc ao ys cap o.type h5 (by rw [e]; exact thereG hA p n hl)
  rw [e, List.take_of_length_le (by omega)] at hrun
  unfold Oper.wp execOp
  simp only [hop, resolve, invoke, builtin, Sem.run_bind, Sem.run_pure, Result.andThen_ok, List.map_toArray, List.map_cons, List.map_nil, hx, hy, hrun]
  exact hK' _ _ (hK _ (hA.layG p ys (by omega)) (but_cells _ _ _ _))
/-- 'append(s, x...)' of bytes, s without room: a new row -/
theorem full_law (w : World) (hg : o.guard = none) (s x : Operand) (hop : o.op = .call { callee := .builtin .append, args := #[s, x], argTypes := #[23, 23] })
    (vy : Value) (xs ys : List Int) (ad : Addr) (n : Nat) (hs : a.eval s = .slice (some ad) n n) (hx : a.eval x = vy) (hv : Byt w (.slice (some ad) n n) xs) (hy : Byt w vy ys) (hp : 0 < ys.length) (hq : 0 < xs.length) (hn : xs.length ≤ 1000000) (hm : ys.length ≤ 1000000)
    (hK : ∀ v' w', Own w.heap.size w' v' (xs ++ ys) → Below w.heap.size w w' → wpList Tryd.prog ops Q rest (a.put o.dst v') w') :
    wpList Tryd.prog ops Q (o :: rest) a w := by
  obtain ⟨i0, hi, hz0, hz1, hz2⟩ := info_parts info_u8
  obtain ⟨ao, cap, e, h1, h2, h3, h4, h5⟩ := hv
  cases e
  obtain ⟨b, off, e, hc⟩ := h5 hq
  cases e
  obtain ⟨ay, cay, rfl, y1, y2, y3, y4, y5⟩ := hy
  obtain ⟨by', offy, rfl, hcy⟩ := y5 hp
  refine wpList_append_grows w hg s x 23 hop 5 i0 (.int .u8 0) 1 1 Tryd.underlying23 hi hz0 hz1 hz2 rfl (by decide) (some ⟨b, off, none⟩) xs.length xs.length (xs.map (Value.int .u8)) hs (by intro h; cases h) (by simp) ?_ ⟨by', offy, none⟩ ys.length cay (ys.map (Value.int .u8)) hx (by simp) ?_ ?_ (by omega) (by simp only [maxLen]; omega) (by omega) fun v' w' r1 r2 => ?_
  · intro b' hb' j u hj
    cases hb'
    have hjl : j < xs.length := by have := (List.getElem?_eq_some_iff.1 hj).1; simpa using this
    rw [Addr.add_mid, hc j hjl, ← hj]
    simp [gb, List.getD, hjl]
  · intro j u hj
    have hjl : j < ys.length := by have := (List.getElem?_eq_some_iff.1 hj).1; simpa using this
    rw [Addr.add_mid, hcy j hjl, ← hj]
    simp [gb, List.getD, hjl]
  · intro u hu
    simp only [List.mem_map] at hu
    obtain ⟨y, _, rfl⟩ := hu
    rfl
  · refine hK v' w' ?_ ((Below.refl _ w).grown r2 (Nat.le_refl _) fun k hk => by cases hk)
    show w'.ownsRow w.heap.size 5 1 v' (xs ++ ys).length ((xs ++ ys).map (Value.int .u8))
    simpa using r1
/-- 'append(nil, make([]byte, n)...)': room for n bytes -/
theorem zeros_law (w : World) (hg : o.guard = none) (s x : Operand) (hop : o.op = .call { callee := .builtin .append, args := #[s, x], argTypes := #[23, 3] })
    (L : Int) (n : Nat) (hs : a.eval s = .slice none 0 0) (hx : a.eval x = .int .i64 L) (hL : L = (n : Int)) (hp : 0 < n) (hn : n ≤ 1000000)
    (hK : ∀ cap w', n ≤ cap → cap ≤ 9223372036854775807 → Own w.heap.size w' (.slice (some ⟨w.heap.size, 0, none⟩) 0 cap) [] → Below w.heap.size w w' → wpList Tryd.prog ops Q rest (a.put o.dst (.slice (some ⟨w.heap.size, 0, none⟩) n cap)) w') :
    wpList Tryd.prog ops Q (o :: rest) a w := by
  refine wpList_plain hg fun K hK' => ?_
  obtain ⟨i0, hi, hz0, hz1, hz2⟩ := info_parts info_u8
  subst hL
  have hrun := Lib.run_append_nil_zeros (P := Tryd.prog) w 23 3 o.type 5 i0 (.int .u8 0) .i64 .i64 Tryd.underlying23 Tryd.underlying3 hi hz0 n hp (by rw [hz1]; decide) (by omega) (by rw [hz2]; omega)
  have hge := grownCap_ge w n 0 5
  have hcm : grownCap w n 0 5 ≤ maxLen := grownCap_le_maxLen w n 0 5 (by simp only [maxLen]; omega)
  unfold Oper.wp
  simp [execOp, hop, resolve, invoke, builtin, hs, hx, hrun, Result.andThen]
  refine hK' _ _ (hK _ _ hge (by simpa [maxLen] using hcm) ⟨by simp, .inr ⟨w.heap.size, _, _, rfl, Nat.le_refl _, heap_alloc_new w.drew _, Nat.zero_le _, hcm, ?_, by simp⟩⟩ ((Below.refl _ _).drew.alloc (Nat.le_refl _) _))
  have hz : (Value.int .u8 0).cells.size = 1 := rfl
  simp only [Array.size_append, size_zeroCells, hz]
  omega
end

section
variable {ops : Array Oper} {o : Oper} {a : Act} {Q : Exit → Act → World → Prop} {K : Act → World → Prop} {E : Prop}
/-- a call, guarded or not -/
theorem step_callW (w : World) (hw : Region.wanted o (yielded ops a.tmps) = true) (d : Option Tmp) (hd : o.dst = d) (f : FuncId) (args : Array Operand) (ats : Array TypeId) (hop : o.op = .call { callee := .value (.func f), args := args, argTypes := ats })
    (hcf : ∀ (q : Array Value) (w : World), (callFunc f q).run Tryd.prog w = .ok (.enter f q) w) (vs : Array Value) (hx : args.map a.eval = vs) (R : Value → World → Prop) (hc : Calls Tryd.prog f vs w fun e w' => ∃ v, e = .returned v ∧ R v w') (hK : ∀ v w', R v w' → K (a.put d v) w') : if Region.wanted o (yielded ops a.tmps) = true then Oper.wp Tryd.prog o a w K Q else E := by
  rw [if_pos hw]
  subst hd
  subst hx
  unfold Oper.wp
  simp only [execOp, hop]
  go_simp
  refine hc.mono ?_
  rintro e w' ⟨v, rfl, hr⟩
  exact hK v w' hr
end
end Go.Proofs.YtifepmdhbhdjpaaDoor.wr

/- What sbox's Subs and Backs answer; that the program answers at all. No claim of its own. -/
namespace Go.Proofs.YtifepmdhbhdjpaaDoor
open Go.RowKit
set_option maxRecDepth 20000

theorem ptab_allB : AllB ptab := allB_mem fun x hx => by
  have h : ptab.all (fun x => decide (0 ≤ x ∧ x ≤ 255)) = true := by decide +kernel
  simpa using List.all_eq_true.1 h x hx
theorem btab_allB : AllB btab := allB_mem fun x hx => by
  have h : btab.all (fun x => decide (0 ≤ x ∧ x ≤ 255)) = true := by decide +kernel
  simpa using List.all_eq_true.1 h x hx

set_option maxHeartbeats 2000000 in
theorem subs_any (v : Value) (xs : List Int) (w : World) (hv : Byt w v xs) (hmax : xs.length ≤ 1048576) :
    Calls Tryd.prog 52 #[v] w fun e w' => ∃ v', e = .returned v' ∧ Byt w' v' (looked ptab xs) ∧ Below w.heap.size w w' := by
  have HV : Hid (Byt w v xs) := hv
  have HM : Hid (xs.length ≤ 1048576) := hmax
  clear hv hmax
  go_enter Tryd.func52, Tryd.ntmps52
  go_wp2_with (first
    | (go_at_call 61; refine (look_any v xs ptab _ (HV.out.below B1) ptab_len ptab_allB HM.out).mono ?_; rintro e w2 ⟨v2, rfl, Y2, B2⟩)
    | (go_at_call 62; refine (puts_any _).mono ?_; rintro e w1 ⟨rfl, B1⟩))
  go_ret
  exact ⟨_, rfl, Y2, B1.trans (B2.mono B1.size)⟩

theorem sb_83 : sb 83 = 237 := by decide +kernel
theorem sk_237 : sk 237 = 83 := by decide +kernel
end Go.Proofs.YtifepmdhbhdjpaaDoor

/- What sbox's Word answers. No claim of its own. -/
namespace Go.Proofs.YtifepmdhbhdjpaaDoor
open Go.RowKit
set_option maxRecDepth 20000

/-- byte i of a word, from below -/
def wb (x i : Nat) : Nat := x / 256 ^ i % 256
theorem wb_lt (x i : Nat) : wb x i < 256 := Nat.mod_lt _ (by omega)
/-- what is put for the first k bytes of a word -/
def wsum (x : Nat) : Nat → Nat
  | 0 => 0
  | k + 1 => wsum x k + 256 ^ k * sb (wb x k)
theorem wsum_lt (x k : Nat) : wsum x k < 256 ^ k := by
  induction k with
  | zero => simp [wsum]
  | succ k ih =>
    have h := sb_lt _ (wb_lt x k)
    have : 256 ^ k * sb (wb x k) ≤ 256 ^ k * 255 := Nat.mul_le_mul_left _ (by omega)
    rw [wsum, Nat.pow_succ]; omega
theorem join4 (a b c d : Nat) (ha : a < 256) (hb : b < 256) (hc : c < 256) (hd : d < 256) :
    bits .or .u32 (bits .or .u32 (bits .or .u32 (IntKind.u32.wrap (IntKind.u32.wrap (a : Int) * 16777216)) (IntKind.u32.wrap (IntKind.u32.wrap (b : Int) * 65536))) (IntKind.u32.wrap (IntKind.u32.wrap (c : Int) * 256))) (IntKind.u32.wrap (d : Int)) = ((a * 16777216 + b * 65536 + c * 256 + d : Nat) : Int) := by
  have e1 : IntKind.u32.wrap (IntKind.u32.wrap (a : Int) * 16777216) = ((2 ^ 24 * a : Nat) : Int) := by rw [IntKind.wrap_u32', IntKind.wrap_u32']; omega
  have e2 : IntKind.u32.wrap (IntKind.u32.wrap (b : Int) * 65536) = ((2 ^ 16 * b : Nat) : Int) := by rw [IntKind.wrap_u32', IntKind.wrap_u32']; omega
  have e3 : IntKind.u32.wrap (IntKind.u32.wrap (c : Int) * 256) = ((2 ^ 8 * c : Nat) : Int) := by rw [IntKind.wrap_u32', IntKind.wrap_u32']; omega
  have e4 : IntKind.u32.wrap (d : Int) = (d : Int) := by rw [IntKind.wrap_u32']; omega
  rw [e1, e2, e3, e4, u32_or_nat _ _ (by omega) (by omega), ← Nat.two_pow_add_eq_or_of_lt (by omega) a]
  rw [show 2 ^ 24 * a + 2 ^ 16 * b = 2 ^ 16 * (256 * a + b) by omega, u32_or_nat _ _ (by omega) (by omega), ← Nat.two_pow_add_eq_or_of_lt (by omega) (256 * a + b)]
  rw [show 2 ^ 16 * (256 * a + b) + 2 ^ 8 * c = 2 ^ 8 * (65536 * a + 256 * b + c) by omega, u32_or_nat _ _ (by omega) (by omega), ← Nat.two_pow_add_eq_or_of_lt (by omega) (65536 * a + 256 * b + c)]
  omega

set_option maxRecDepth 20000 in
set_option maxHeartbeats 2000000 in
theorem word_any (x : Nat) (w : World) :
    Calls Tryd.prog 59 #[.int .u32 x] w fun e w' => e = .returned (.int .u32 (wsum x 4)) ∧ Below w.heap.size w w' := by
  have h3 : IntKind.u8.wrap ((x : Int) / 16777216) = (wb x 3 : Int) := by rw [IntKind.wrap_u8']; simp only [wb]; omega
  have h2 : IntKind.u8.wrap ((x : Int) / 65536) = (wb x 2 : Int) := by rw [IntKind.wrap_u8']; simp only [wb]; omega
  have h1 : IntKind.u8.wrap ((x : Int) / 256) = (wb x 1 : Int) := by rw [IntKind.wrap_u8']; simp only [wb]; omega
  have h0 : IntKind.u8.wrap (x : Int) = (wb x 0 : Int) := by rw [IntKind.wrap_u8']; simp only [wb]; omega
  have l3 := wb_lt x 3
  have l2 := wb_lt x 2
  have l1 := wb_lt x 1
  have l0 := wb_lt x 0
  have g3 := gb_p _ l3
  have g2 := gb_p _ l2
  have g1 := gb_p _ l1
  have g0 := gb_p _ l0
  have m3 := sb_lt _ l3
  have m2 := sb_lt _ l2
  have m1 := sb_lt _ l1
  have m0 := sb_lt _ l0
  have HW : Hid (wsum x 4 = sb (wb x 3) * 16777216 + sb (wb x 2) * 65536 + sb (wb x 1) * 256 + sb (wb x 0)) := by
    show _ = _
    simp only [wsum]; omega
  have HJ : Hid (sb (wb x 3) < 256 ∧ sb (wb x 2) < 256 ∧ sb (wb x 1) < 256 ∧ sb (wb x 0) < 256) := ⟨m3, m2, m1, m0⟩
  clear m3 m2 m1 m0
  generalize wsum x 4 = r at *
  generalize wb x 3 = i3 at *
  generalize wb x 2 = i2 at *
  generalize wb x 1 = i1 at *
  generalize wb x 0 = i0 at *
  generalize sb i3 = s3 at *
  generalize sb i2 = s2 at *
  generalize sb i1 = s1 at *
  generalize sb i0 = s0 at *
  have HG : Hid (gb ptab i3 = (s3 : Int) ∧ gb ptab i2 = (s2 : Int) ∧ gb ptab i1 = (s1 : Int) ∧ gb ptab i0 = (s0 : Int)) := ⟨g3, g2, g1, g0⟩
  clear g3 g2 g1 g0
  go_enter Tryd.func59, Tryd.ntmps59
  go_wp2_with (first
    | (go_at_call 62; refine (puts_any _).mono ?_; rintro e w1 ⟨rfl, B1⟩)
    | (have q1 := B1; refine new_lawF _ rfl 90 rfl .u8 z256 z_arr256 ?_; intro w2 A2 B2 z2; have HA2 : Hid (Ar w2 w1.heap.size 0 .u8 z256) := A2; clear A2)
    | (refine store_lawF _ rfl (.tmp 3) (.tmp 4) 90 rfl .u8 z256 ptab w1.heap.size rfl rfl HA2.out 256 i_arr256 z256_len ptab_len ?_; intro w3 A3 B3; have HA3 : Hid (Ar w3 w1.heap.size 0 .u8 ptab) := A3; clear A3))
  have c3 := HA3.out.cell0 i3 (by rw [ptab_len]; exact l3)
  have c2 := HA3.out.cell0 i2 (by rw [ptab_len]; exact l2)
  have c1 := HA3.out.cell0 i1 (by rw [ptab_len]; exact l1)
  have c0 := HA3.out.cell0 i0 (by rw [ptab_len]; exact l0)
  rw [HG.out.1] at c3
  rw [HG.out.2.1] at c2
  rw [HG.out.2.2.1] at c1
  rw [HG.out.2.2.2] at c0
  have o3 : (i3 : Int) < 256 := by omega
  have o2 : (i2 : Int) < 256 := by omega
  have o1 : (i1 : Int) < 256 := by omega
  have o0 : (i0 : Int) < 256 := by omega
  go_quiet (fail)
  go_wp2
  go_ret
  refine ⟨ret_int ?_, below_drewN ((B1.trans (B2.mono (by have := B1.size; omega))).trans (B3.mono (by have := B1.size; omega))) _⟩
  rw [HW.out]
  exact join4 s3 s2 s1 s0 HJ.out.1 HJ.out.2.1 HJ.out.2.2.1 HJ.out.2.2.2
end Go.Proofs.YtifepmdhbhdjpaaDoor

/- Words of four bytes as numbers: xored, put for, rotated. No claim of its own. -/
namespace Go.Proofs.YtifepmdhbhdjpaaDoor
open Go.RowKit
set_option maxRecDepth 20000

/-- the number of four bytes, the greatest first -/
def n4 (x : List Int) : Nat := (gb x 0).toNat * 16777216 + (gb x 1).toNat * 65536 + (gb x 2).toNat * 256 + (gb x 3).toNat
theorem wd_bd {x : List Int} (h : Wd x) (i : Nat) : (gb x i).toNat < 256 ∧ gb x i = ((gb x i).toNat : Int) := by have := h.2 i; omega
theorem n4_lt (x : List Int) (h : Wd x) : n4 x < 4294967296 := by
  have h0 := (wd_bd h 0).1
  have h1 := (wd_bd h 1).1
  have h2 := (wd_bd h 2).1
  have h3 := (wd_bd h 3).1
  unfold n4; omega
theorem join_xor (k a b c d : Nat) (hb : b < 2 ^ k) (hd : d < 2 ^ k) : (2 ^ k * a + b) ^^^ (2 ^ k * c + d) = 2 ^ k * (a ^^^ c) + (b ^^^ d) := by
  apply Nat.eq_of_testBit_eq
  intro j
  rw [Nat.testBit_xor, Nat.testBit_two_pow_mul_add a hb j, Nat.testBit_two_pow_mul_add c hd j, Nat.testBit_two_pow_mul_add (a ^^^ c) (Nat.xor_lt_two_pow hb hd) j]
  by_cases h : j < k
  · simp [h]
  · simp [h]
theorem n4_form (x : List Int) : n4 x = 2 ^ 8 * (2 ^ 8 * (2 ^ 8 * (gb x 0).toNat + (gb x 1).toNat) + (gb x 2).toNat) + (gb x 3).toNat := by unfold n4; omega
theorem n4_xor (x y : List Int) (hx : Wd x) (hy : Wd y) : n4 (xorl x y) = n4 x ^^^ n4 y := by
  have hl : x.length = y.length := by rw [hx.1, hy.1]
  have e : ∀ i, i < 4 → (gb (xorl x y) i).toNat = (gb x i).toNat ^^^ (gb y i).toNat := fun i hi => by
    rw [xorl_gb x y hl i (by rw [hx.1]; exact hi)]
    simp [xr]
  have x1 := (wd_bd hx 1).1
  have x2 := (wd_bd hx 2).1
  have x3 := (wd_bd hx 3).1
  have y1 := (wd_bd hy 1).1
  have y2 := (wd_bd hy 2).1
  have y3 := (wd_bd hy 3).1
  rw [n4_form, n4_form x, n4_form y, e 0 (by omega), e 1 (by omega), e 2 (by omega), e 3 (by omega), join_xor 8 _ _ _ _ x3 y3, join_xor 8 _ _ _ _ x2 y2, join_xor 8 _ _ _ _ x1 y1]
theorem wb_n4 (x : List Int) (h : Wd x) : wb (n4 x) 0 = (gb x 3).toNat ∧ wb (n4 x) 1 = (gb x 2).toNat ∧ wb (n4 x) 2 = (gb x 1).toNat ∧ wb (n4 x) 3 = (gb x 0).toNat := by
  have h0 := (wd_bd h 0).1
  have h1 := (wd_bd h 1).1
  have h2 := (wd_bd h 2).1
  have h3 := (wd_bd h 3).1
  unfold wb n4
  refine ⟨?_, ?_, ?_, ?_⟩ <;> omega
theorem wsum_n4 (x : List Int) (h : Wd x) : wsum (n4 x) 4 = n4 (looked ptab x) := by
  obtain ⟨e0, e1, e2, e3⟩ := wb_n4 x h
  have g : ∀ i, i < 4 → (gb (looked ptab x) i).toNat = sb (gb x i).toNat := fun i hi => by
    rw [looked_gb _ _ _ (by rw [h.1]; exact hi), gb_p _ (wd_bd h i).1, Int.toNat_natCast]
  simp only [wsum, e0, e1, e2, e3]
  rw [n4, g 0 (by omega), g 1 (by omega), g 2 (by omega), g 3 (by omega)]
  omega
/-- rotated by one byte -/
def rot1 (x : List Int) : List Int := [gb x 1, gb x 2, gb x 3, gb x 0]
theorem rot1_wd (x : List Int) (h : Wd x) : Wd (rot1 x) := wd4 _ _ _ _ (h.2 1) (h.2 2) (h.2 3) (h.2 0)
theorem n4_rot (x : List Int) (h : Wd x) : n4 (rot1 x) = n4 x * 256 % 4294967296 + n4 x / 16777216 := by
  have h0 := (wd_bd h 0).1
  have h1 := (wd_bd h 1).1
  have h2 := (wd_bd h 2).1
  have h3 := (wd_bd h 3).1
  show (gb x 1).toNat * 16777216 + (gb x 2).toNat * 65536 + (gb x 3).toNat * 256 + (gb x 0).toNat = _
  unfold n4
  omega
theorem four_gb (x : List Int) (h : x.length = 4) : x = [gb x 0, gb x 1, gb x 2, gb x 3] := by
  match x, h with
  | [a, b, c, d], _ => rfl
theorem looked_wd (x : List Int) (h : x.length = 4) : Wd (looked ptab x) := ⟨by rw [looked_len, h], looked_all _ _ pAll⟩
/-- what is xored to the word eight ahead, as a number -/
theorem n4_mid (i : Nat) (x : List Int) (h : Wd x) : n4 (mid i x) = if i % 8 = 0 then wsum (n4 x * 256 % 4294967296 + n4 x / 16777216) 4 ^^^ pw 2 (i / 8 - 1) * 16777216 else if i % 8 = 4 then wsum (n4 x) 4 else n4 x := by
  by_cases h0 : i % 8 = 0
  · rw [if_pos h0, ← n4_rot x h, wsum_n4 _ (rot1_wd x h)]
    have hp := pw_lt 2 (i / 8 - 1)
    have hr := looked_wd (rot1 x) rfl
    have e : mid i x = xorl (looked ptab (rot1 x)) [(pw 2 (i / 8 - 1) : Int), 0, 0, 0] := by
      have hz : ∀ a : Int, 0 ≤ a → xr a 0 = a := fun a ha => by simp [xr]; omega
      have hb := pAll
      unfold mid
      rw [if_pos h0]
      show _ = [xr (gb ptab (gb x 1).toNat) (pw 2 (i / 8 - 1) : Int), xr (gb ptab (gb x 2).toNat) 0, xr (gb ptab (gb x 3).toNat) 0, xr (gb ptab (gb x 0).toNat) 0]
      rw [hz _ (hb _).1, hz _ (hb _).1, hz _ (hb _).1]
    rw [e, n4_xor _ _ hr (wd4 _ _ _ _ (by omega) (by omega) (by omega) (by omega))]
    have e2 : n4 [(pw 2 (i / 8 - 1) : Int), 0, 0, 0] = pw 2 (i / 8 - 1) * 16777216 := by
      generalize pw 2 (i / 8 - 1) = q
      simp [n4, gb]
    rw [e2]
  · rw [if_neg h0]
    by_cases h4 : i % 8 = 4
    · rw [if_pos h4, wsum_n4 x h]
      have e : mid i x = looked ptab x := by
        unfold mid
        rw [if_neg h0, if_pos h4]
        conv => rhs; rw [four_gb x h.1]
        rfl
      rw [e]
    · rw [if_neg h4, mid, if_neg h0, if_neg h4]
/-- word i, as a number -/
def wn (key : List Int) (i : Nat) : Nat := n4 (wd key i)
theorem wn_lt (key : List Int) (hk : key.length = 32) (ha : AllB key) (i : Nat) : wn key i < 4294967296 := n4_lt _ (wd_wd key hk ha i)
theorem wn_eq (key : List Int) (hk : key.length = 32) (ha : AllB key) (i : Nat) (h : 8 ≤ i) :
    wn key i = wn key (i - 8) ^^^ (if i % 8 = 0 then wsum (wn key (i - 1) * 256 % 4294967296 + wn key (i - 1) / 16777216) 4 ^^^ pw 2 (i / 8 - 1) * 16777216 else if i % 8 = 4 then wsum (wn key (i - 1)) 4 else wn key (i - 1)) := by
  have h8 := wd_wd key hk ha (i - 8)
  have h1 := wd_wd key hk ha (i - 1)
  rw [wn, wd_eq, if_neg (by omega), n4_xor _ _ h8 (mid_wd i _ h1), n4_mid i _ h1]
  rfl
theorem wn_first (key : List Int) (i : Nat) (h : i < 8) : wn key i = n4 (cut4 key i) := by rw [wn, wd_eq, if_pos h]
end Go.Proofs.YtifepmdhbhdjpaaDoor

/- What aes' stirred answers; four bytes and their number. No claim of its own. -/
namespace Go.Proofs.YtifepmdhbhdjpaaDoor
open Go.RowKit
set_option maxRecDepth 20000

theorem num4 (x : List Int) (h : Wd x) : num (last8 x) = (n4 x : Int) := by
  have h0 := (wd_bd h 0)
  have h1 := (wd_bd h 1)
  have h2 := (wd_bd h 2)
  have h3 := (wd_bd h 3)
  have e : last8 x = x := by unfold last8; rw [h.1]; rfl
  rw [e]
  obtain ⟨a, b, c, d, rfl⟩ : ∃ a b c d, x = [a, b, c, d] := ⟨_, _, _, _, four_gb x h.1⟩
  simp only [gb, List.getD, List.getElem?_cons_zero, List.getElem?_cons_succ, Option.getD_some] at h0 h1 h2 h3
  simp only [num, n4, gb, List.foldl, List.getD, List.getElem?_cons_zero, List.getElem?_cons_succ, Option.getD_some]
  omega
theorem be4n (x : List Int) (h : Wd x) : (le (n4 x : Int) 4).reverse = x := by
  have h0 := (wd_bd h 0)
  have h1 := (wd_bd h 1)
  have h2 := (wd_bd h 2)
  have h3 := (wd_bd h 3)
  have e : (le (n4 x : Int) 4).reverse = [sh (n4 x) 3 % 256, sh (n4 x) 2 % 256, sh (n4 x) 1 % 256, sh (n4 x) 0 % 256] := rfl
  rw [e, four_gb x h.1]
  have e0 : sh (n4 x) 0 = (n4 x : Int) := rfl
  have e1 : sh (n4 x) 1 = (n4 x : Int) / 256 := rfl
  have e2 : sh (n4 x) 2 = (n4 x : Int) / 256 / 256 := rfl
  have e3 : sh (n4 x) 3 = (n4 x : Int) / 256 / 256 / 256 := rfl
  rw [← four_gb x h.1, e3, e2, e1, e0]
  unfold n4
  have f0 : ((((gb x 0).toNat * 16777216 + (gb x 1).toNat * 65536 + (gb x 2).toNat * 256 + (gb x 3).toNat : Nat) : Int) / 256 / 256 / 256) % 256 = gb x 0 := by omega
  have f1 : ((((gb x 0).toNat * 16777216 + (gb x 1).toNat * 65536 + (gb x 2).toNat * 256 + (gb x 3).toNat : Nat) : Int) / 256 / 256) % 256 = gb x 1 := by omega
  have f2 : ((((gb x 0).toNat * 16777216 + (gb x 1).toNat * 65536 + (gb x 2).toNat * 256 + (gb x 3).toNat : Nat) : Int) / 256) % 256 = gb x 2 := by omega
  have f3 : (((gb x 0).toNat * 16777216 + (gb x 1).toNat * 65536 + (gb x 2).toNat * 256 + (gb x 3).toNat : Nat) : Int) % 256 = gb x 3 := by omega
  rw [f0, f1, f2, f3]
  exact (four_gb x h.1).symm
/-- rotated to the left by 8 -/
def rl8 (x : Nat) : Nat := x * 256 % 4294967296 + x / 16777216
theorem rl8_lt (x : Nat) (h : x < 4294967296) : rl8 x < 4294967296 := by unfold rl8; omega
/-- what goes into word i of the word ahead of it -/
def stn (i x : Nat) : Nat := if i % 8 = 0 then wsum (rl8 x) 4 ^^^ pw 2 (i / 8 - 1) * 16777216 else if i % 8 = 4 then wsum x 4 else x

theorem rot8_eq (x : Nat) (h : x < 4294967296) : bits .or .u32 (IntKind.u32.wrap ((x : Int) * 256)) (IntKind.u32.wrap ((x : Int) / 16777216)) = (rl8 x : Int) := by
  have e1 : IntKind.u32.wrap ((x : Int) * 256) = ((2 ^ 8 * (x % 16777216) : Nat) : Int) := by rw [IntKind.wrap_u32]; omega
  have e2 : IntKind.u32.wrap ((x : Int) / 16777216) = ((x / 16777216 : Nat) : Int) := by rw [IntKind.wrap_u32]; omega
  rw [e1, e2, u32_or_nat _ _ (by omega) (by omega), ← Nat.two_pow_add_eq_or_of_lt (by omega) (x % 16777216)]
  unfold rl8
  omega

set_option maxHeartbeats 1000000 in
theorem rotl8_any (x : Nat) (w : World) (hx : x < 4294967296) :
    Calls Tryd.prog 60 #[.int .u32 x, .int .i64 8] w fun e w' => e = .returned (.int .u32 (rl8 x)) ∧ w' = w := by
  have h8 : bits .and .u64 8 31 = 8 := by decide +kernel
  have HX : Hid (x < 4294967296) := hx
  have w1 : IntKind.u32.wrap ((x : Int) / 16777216) = (x : Int) / 16777216 := by rw [IntKind.wrap_u32]; omega
  have HE := rot8_eq x hx
  rw [w1] at HE
  have HE' : Hid (bits .or .u32 (IntKind.u32.wrap ((x : Int) * 256)) ((x : Int) / 16777216) = (rl8 x : Int)) := HE
  clear hx HE
  go_enter Tryd.func60, Tryd.ntmps60
  go_wp2
  go_ret
  exact ⟨ret_int HE'.out, rfl⟩

theorem pw_bd (i : Nat) : pw 2 i < 256 := pw_lt 2 i
set_option maxHeartbeats 2000000 in
theorem stir_any (x i : Nat) (w : World) (hx : x < 4294967296) (hi : 8 ≤ i) (hi' : i < 60) :
    Calls Tryd.prog 47 #[.int .u32 x, .int .i64 i] w fun e w' => e = .returned (.int .u32 (stn i x)) ∧ Below w.heap.size w w' := by
  have q1 : IntKind.i64.wrap (i : Int) = i := by rw [IntKind.wrap_i64]; omega
  by_cases h0 : i % 8 = 0
  · have e0 : ((i : Int)).tmod 8 = 0 := by rw [Int.tmod_eq_emod_of_nonneg (by omega)]; omega
    obtain ⟨d, hd⟩ : ∃ d, d = i / 8 - 1 := ⟨_, rfl⟩
    have e1 : ((i : Int)).tdiv 8 = (d : Int) + 1 := by rw [Int.tdiv_eq_ediv_of_nonneg (by omega)]; omega
    have e2 : IntKind.i64.wrap ((d : Int) + 1) = (d : Int) + 1 := by rw [IntKind.wrap_i64]; omega
    have e3 : IntKind.i64.wrap ((d : Int) + 1 - 1) = (d : Int) := by rw [IntKind.wrap_i64]; omega
    have e6 : IntKind.i64.wrap (d : Int) = (d : Int) := by rw [IntKind.wrap_i64]; omega
    have P1 : Hid (∀ w0, Calls Tryd.prog 58 #[.int .u8 2, .int .i64 d] w0 fun e w' => e = .returned (.int .u8 (pw 2 d)) ∧ w' = w0) := fun w0 => by
      have := pow_any 2 (d : Int) w0 (by omega) (by omega)
      rwa [Int.toNat_natCast] at this
    have R1 : Hid (∀ w0, Calls Tryd.prog 60 #[.int .u32 x, .int .i64 8] w0 fun e w' => e = .returned (.int .u32 (rl8 x)) ∧ w' = w0) := fun w0 => rotl8_any x w0 hx
    have W1 : Hid (∀ w0, Calls Tryd.prog 59 #[.int .u32 (rl8 x)] w0 fun e w' => e = .returned (.int .u32 (wsum (rl8 x) 4)) ∧ Below w0.heap.size w0 w') := fun w0 => word_any (rl8 x) w0
    have HS : Hid ((stn i x : Int) = bits .xor .u32 (wsum (rl8 x) 4 : Int) (IntKind.u32.wrap (((pw 2 d : Nat) : Int) * 16777216))) := by
      show _ = _
      have hp := pw_lt 2 d
      have hw := wsum_lt (rl8 x) 4
      have e4 : IntKind.u32.wrap (((pw 2 d : Nat) : Int) * 16777216) = ((pw 2 d * 16777216 : Nat) : Int) := by rw [IntKind.wrap_u32]; omega
      rw [e4, u32_xor_nat _ _ (by omega) (by omega)]
      unfold stn
      rw [if_pos h0, ← hd]
    have hp8 : pw 2 d < 256 := pw_lt 2 d
    have e5 : IntKind.u32.wrap ((pw 2 d : Nat) : Int) = ((pw 2 d : Nat) : Int) := by rw [IntKind.wrap_u32]; omega
    generalize stn i x = z at *
    generalize wsum (rl8 x) 4 = ws at *
    generalize rl8 x = rx at *
    generalize pw 2 d = p at *
    clear hd hp8
    go_enter Tryd.func47, Tryd.ntmps47
    go_wp2_with (first
      | (go_at_call 59; refine (W1.out _).mono ?_; rintro e w1 ⟨rfl, B1⟩)
      | (go_at_call 60; refine (R1.out _).mono ?_; rintro e w1 ⟨rfl, hw⟩; obtain rfl := hw.symm)
      | (go_at_call 58; refine (P1.out _).mono ?_; rintro e w1 ⟨rfl, hw⟩; obtain rfl := hw.symm))
    go_ret
    exact ⟨ret_int HS.out.symm, B1⟩
  · by_cases h4 : i % 8 = 4
    · have e0 : ((i : Int)).tmod 8 = 4 := by rw [Int.tmod_eq_emod_of_nonneg (by omega)]; omega
      have W1 : Hid (∀ w0, Calls Tryd.prog 59 #[.int .u32 x] w0 fun e w' => e = .returned (.int .u32 (wsum x 4)) ∧ Below w0.heap.size w0 w') := fun w0 => word_any x w0
      have HS : Hid (stn i x = wsum x 4) := by show _ = _; unfold stn; rw [if_neg h0, if_pos h4]
      rw [HS.out]
      generalize wsum x 4 = ws at *
      go_enter Tryd.func47, Tryd.ntmps47
      go_wp2_with (go_at_call 59; refine (W1.out _).mono ?_; rintro e w1 ⟨rfl, B1⟩)
      go_ret
      exact ⟨rfl, B1⟩
    · obtain ⟨r, hr⟩ : ∃ r, r = i % 8 := ⟨_, rfl⟩
      have e0 : ((i : Int)).tmod 8 = (r : Int) := by rw [Int.tmod_eq_emod_of_nonneg (by omega)]; omega
      have r0 : ¬ ((r : Int) = 0) := by omega
      have r4 : ¬ ((r : Int) = 4) := by omega
      have r5 : IntKind.i64.wrap (r : Int) = r := by rw [IntKind.wrap_i64]; omega
      have HS : stn i x = x := by unfold stn; rw [if_neg h0, if_neg h4]
      rw [HS]
      clear hr h0 h4 HS
      go_enter Tryd.func47, Tryd.ntmps47
      go_wp2
      go_ret
      exact ⟨rfl, Below.refl _ _⟩
end Go.Proofs.YtifepmdhbhdjpaaDoor

/- What field's weigh, Mix and Unmix answer. No claim of its own. -/
namespace Go.Proofs.YtifepmdhbhdjpaaDoor
open Go.RowKit
set_option maxRecDepth 20000

theorem i_arr4 : (Tryd.prog.info? 69).map (·.size) = some 4 := by kernel_rfl
theorem z_arr4 : (Tryd.prog.info? 69).map (fun i => (i.zero, i.size)) = some (some (.agg (ints .u8 z4)), z4.length) := by kernel_rfl

/-- an array's element -/
theorem idx4 {ops : Array Oper} {rest : List Oper} {o : Oper} {a : Act} {Q : Exit → Act → World → Prop} (w : World) (hg : o.guard = none) (x y : Operand) (hop : o.op = Op.index 69 x y) (xs : List Int) (I : Int) (i : Nat) (hx : a.eval x = .agg (ints .u8 xs)) (hy : a.eval y = .int .i64 I) (hI : I = (i : Int)) (hl : xs.length = 4) (hi : i < 4)
    (q : Int) (hq : q = gb xs i) (hK : wpList Tryd.prog ops Q rest (a.put o.dst (.int .u8 q)) w) : wpList Tryd.prog ops Q (o :: rest) a w := by
  subst hq
  subst hI
  refine wpList_plain hg fun K hK' => ?_
  have e : (ints .u8 xs)[i]? = some (.int .u8 (gb xs i)) := by simp [ints, gb, List.getD, show i < xs.length by omega]
  have hu := Tryd.underlying69
  have hu2 := Tryd.underlying5
  have hsz : (ints .u8 xs).size = 4 := by simp [ints, hl]
  have hr : (Instr.index 69 (.agg (ints .u8 xs)) (.int .i64 i)).run Tryd.prog w = .ok (.int .u8 (gb xs i)) w := by
    simp [Instr.index, asIntOf, run_underlying hu, run_underlying hu2, Go.part, isAgg, e]
    intro h; omega
  unfold Oper.wp execOp
  simp only [hop, hx, hy, Sem.run_bind, Sem.run_pure, Result.andThen_ok, hr]
  exact hK' _ _ hK

set_option linter.unusedSimpArgs false in
set_option maxRecDepth 20000 in
set_option maxHeartbeats 4000000 in
theorem weigh_any (cs vs : List Nat) (w : World) (hc : Col cs) (hv : Col vs) :
    Calls Tryd.prog 63 #[.agg (ints .u8 (cI cs)), .agg (ints .u8 (cI vs))] w fun e w' => e = .returned (.agg (ints .u8 (cI (trn cs vs)))) ∧ Below w.heap.size w w' := by
  have HC : Hid (Col cs) := hc
  have HV : Hid (Col vs) := hv
  have LC : Hid ((cI cs).length = 4) := by show _ = _; rw [cI_len]; exact hc.1
  have LV : Hid ((cI vs).length = 4) := by show _ = _; rw [cI_len]; exact hv.1
  have GC : Hid (∀ i, gb (cI cs) i = (gn cs i : Int)) := gb_cI cs
  have GV : Hid (∀ i, gb (cI vs) i = (gn vs i : Int)) := gb_cI vs
  have HE : Hid (prt cs vs 4 0 = cI (trn cs vs) ∧ (cI (trn cs vs)).length = 4) := ⟨prt_end cs vs, rfl⟩
  have HZ : Hid (prt cs vs 0 0 = z4) := prt_zero cs vs
  obtain ⟨xs, hxs⟩ : ∃ xs, xs = cI cs := ⟨_, rfl⟩
  obtain ⟨ys, hys⟩ : ∃ ys, ys = cI vs := ⟨_, rfl⟩
  obtain ⟨zs, hzs⟩ : ∃ zs, zs = cI (trn cs vs) := ⟨_, rfl⟩
  rw [← hxs] at LC GC
  rw [← hys] at LV GV
  rw [← hzs] at HE
  rw [← hxs, ← hys, ← hzs]
  clear hxs hys hzs hc hv
  go_enter Tryd.func63, Tryd.ntmps63
  go_wp2_with (first
    | (refine box_lawF _ rfl (.tmp 0) 69 rfl .u8 xs rfl ?_; intro w1 A1 B1 s1; have HA1 : Hid (Ar w1 w.heap.size 0 .u8 xs) := A1; clear A1)
    | (refine box_lawF _ rfl (.tmp 1) 69 rfl .u8 ys rfl ?_; intro w2 A2 B2 s2; have HA2 : Hid (Ar w2 w1.heap.size 0 .u8 ys) := A2; clear A2)
    | (have q2 := s2; have q3 := s3; refine new_lawF _ rfl 69 rfl .u8 z4 z_arr4 ?_; intro w4 A4 B4 s4; have HA4 : Hid (Ar w4 w3.heap.size 0 .u8 z4) := A4; clear A4)
    | (have q2 := s2; refine new_lawF _ rfl 69 rfl .u8 z4 z_arr4 ?_; intro w3 A3 B3 s3; have HA3 : Hid (Ar w3 w2.heap.size 0 .u8 z4) := A3; clear A3))
  have D1 : Hid (Ar w3 w.heap.size 0 .u8 xs) := (HA1.out.below B2 s1).below B3 (by omega)
  have D2 : Hid (Ar w3 w1.heap.size 0 .u8 ys) := HA2.out.below B3 s2
  have BW : Below w.heap.size w w3 := (B1.trans (B2.mono (by omega))).trans (B3.mono (by omega))
  have o1 : w.heap.size < w3.heap.size := by omega
  have o2 : w1.heap.size < w3.heap.size := by omega
  have o3 : w2.heap.size < w3.heap.size := by omega
  generalize w2.heap.size = g2 at *
  generalize w1.heap.size = g1 at *
  generalize w3.heap.size = g3 at *
  go_loopw [9] (fun i wr => ∃ k : Nat, k ≤ 4 ∧ i = .int .i64 k ∧ Ar wr g3 0 .u8 (prt cs vs k 0) ∧ Below g3 w3 wr) (fun i _ => 4 - (intOf i).toNat)
  case atStart => exact ⟨0, Nat.zero_le _, rfl, by rw [HZ.out]; exact HA4.out, B4⟩
  case round =>
    obtain ⟨k, hk, rfl, hA, hB⟩ := hrel
    obtain ⟨wa, rfl⟩ : ∃ wx, wx = wr := ⟨_, rfl⟩
    have k0 : (0 : Int) ≤ (k : Int) := by omega
    have q1 : IntKind.i64.wrap (k : Int) = k := by rw [IntKind.wrap_i64]; omega
    have HB : Hid (Below g3 w3 wa) := hB
    have HA : Hid (Ar wa g3 0 .u8 (prt cs vs k 0)) := hA
    clear hA
    by_cases hlt : k < 4
    · have k1 : (k : Int) < 4 := by omega
      go_wp2_with (refine load_law _ rfl (.tmp 3) 69 rfl .u8 ys g1 0 rfl (D2.out.below HB.out o2) 4 5 Tryd.underlying69 i_arr4 LV.out ?_)
      go_loopw [13] (fun j wr => ∃ m : Nat, m ≤ 4 ∧ j = .int .i64 m ∧ Ar wr g3 0 .u8 (prt cs vs k m) ∧ Below g3 w3 wr) (fun j _ => 4 - (intOf j).toNat)
      case atStart => exact ⟨0, Nat.zero_le _, rfl, HA.out, HB.out⟩
      case round =>
        obtain ⟨m, hm, rfl, hA', hB'⟩ := hrel
        obtain ⟨wb, rfl⟩ : ∃ wx, wx = wr := ⟨_, rfl⟩
        clear HA HB hB
        have m0 : (0 : Int) ≤ (m : Int) := by omega
        have q2 : IntKind.i64.wrap (m : Int) = m := by rw [IntKind.wrap_i64]; omega
        by_cases hmt : m < 4
        · have m1 : (m : Int) < 4 := by omega
          obtain ⟨j, hj⟩ : ∃ j, j = (k + m) % 4 := ⟨_, rfl⟩
          have j0 : (0 : Int) ≤ (j : Int) := by omega
          have j1 : (j : Int) < 4 := by omega
          have q3 : IntKind.i64.wrap (j : Int) = j := by rw [IntKind.wrap_i64]; omega
          have q4 : IntKind.i64.wrap ((k : Int) + (m : Int)) = (k : Int) + (m : Int) := by rw [IntKind.wrap_i64]; omega
          have r1 : ((k : Int) + (m : Int)) % 4 = (j : Int) := by omega
          have r2 : ((k : Int) + (m : Int)).tmod 4 = (j : Int) := by rw [Int.tmod_eq_emod_of_nonneg (by omega)]; omega
          have c0 := hA'.cell0 k (by rw [prt_len]; omega)
          rw [prt_at cs vs k m hlt] at c0
          have c1 := (D1.out.below hB' o1).cell0 j (by rw [LC.out]; omega)
          rw [GC.out] at c1
          have HM : Hid (∀ w0, Calls Tryd.prog 64 #[.int .u8 (gn cs j), .int .u8 (gn vs m)] w0 fun e w' => e = .returned (.int .u8 (gm (gn vs m) (gn cs j))) ∧ w' = w0) := fun w0 => by rw [gm_comm (gn vs m) (gn cs j) (HV.out.2 m) (HC.out.2 j)]; exact mul_any _ _ w0 (HC.out.2 j) (HV.out.2 m)
          have hx := u8_xor_nat (acc cs vs k m) (gm (gn vs m) (gn cs j)) (acc_lt cs vs HV.out k m) (gm_lt _ _ (HV.out.2 m))
          have hy : acc cs vs k m ^^^ gm (gn vs m) (gn cs j) = acc cs vs k (m + 1) := by rw [hj]; rfl
          rw [hy] at hx
          have HS : Hid ((prt cs vs k m).set k ((acc cs vs k (m + 1) : Nat) : Int) = prt cs vs k (m + 1)) := prt_set cs vs k m
          have HGV : Hid (((gn vs m : Nat) : Int) = gb ys m) := (GV.out m).symm
          have HA' : Hid (Ar wb g3 0 .u8 (prt cs vs k m)) := hA'
          have HB' : Hid (Below g3 w3 wb) := hB'
          clear hA' hB' hy hj
          generalize acc cs vs k (m + 1) = y1 at *
          generalize acc cs vs k m = y0 at *
          generalize gm (gn vs m) (gn cs j) = p at *
          generalize gn cs j = c at *
          generalize gn vs m = v at *
          go_wp2_with (refine idx4 _ rfl (.tmp 12) (.tmp 13) rfl ys _ m rfl rfl rfl LV.out (by omega) (v : Int) HGV.out ?_)
          refine wp_region_any (by kernel_rfl) ?_
          change wpAny _ _ _ _ _ _ _ (World.drew _)
          refine wpAny_quiet_then (C := fun w' => ∃ n, w' = wb.drewN n) 0 13 1 _ (by kernel_rfl) rfl (by kernel_rfl) (by kernel_rfl) ⟨1, rfl⟩ ?_
          simp only [List.take_succ_cons, List.take_zero, List.drop_zero]
          repeat (quiet_step (with_reducible exact Calls.quiet_of_same (HM.out _)))
          refine wpQuiet_nil ?_
          rintro f _ ⟨nq, rfl⟩
          have A1 := HA'.out.drewN nq
          have A2 := A1.set0 k (by rw [prt_len]; omega) (y1 : Int)
          rw [HS.out] at A2
          have B2' : Below g3 w3 ((wb.drewN nq).setCell ⟨g3, k, none⟩ (.int .u8 (y1 : Int))) := (below_drewN HB'.out nq).setCell (Nat.le_refl _) _
          refine wpAny_ready (rs := [13]) (by kernel_rfl) (by simp) ?_
          refine AllReady.cons rfl (fun K hK => ?_) AllReady.nil
          refine step_set _ rfl none rfl (.tmp 29) (.tmp 28) 5 rfl .u8 (y1 : Int) g3 k rfl (by first | rfl | (rw [← hx]; rfl)) (by rw [A1.cell0 k (by rw [prt_len]; omega)]; rfl) (A1.free0 k (by rw [prt_len]; omega)) i_u8 (hK _ _ ?_)
          simp only [Act.put, List.setIfInBounds_toArray, List.set_cons_zero, List.set_cons_succ]
          have HA6 : Hid (Ar ((wb.drewN nq).setCell ⟨g3, k, none⟩ (.int .u8 (y1 : Int))) g3 0 .u8 (prt cs vs k (m + 1))) := A2
          have HB6 : Hid (Below g3 w3 ((wb.drewN nq).setCell ⟨g3, k, none⟩ (.int .u8 (y1 : Int)))) := B2'
          clear A1 A2 B2' c0 c1
          generalize (wb.drewN nq).setCell ⟨g3, k, none⟩ (.int .u8 (y1 : Int)) = w6 at *
          refine wpAny_done (by kernel_rfl) ?_ _
          go_wp2
          go_roundw
          case rel => exact ⟨m + 1, by omega, by go_num, HA6.out, HB6.out⟩
          case measure => simp [intOf]; omega
        · have hm4 : m = 4 := by omega
          subst hm4
          rw [prt_row cs vs k hlt] at hA'
          have HA6 : Hid (Ar wb g3 0 .u8 (prt cs vs (k + 1) 0)) := hA'
          have HB6 : Hid (Below g3 w3 wb) := hB'
          clear hA' hB'
          go_wp2
          go_roundw
          case rel => exact ⟨k + 1, by omega, by go_num, HA6.out, HB6.out⟩
          case measure => simp [intOf]; omega
    · have hk4 : k = 4 := by omega
      subst hk4
      rw [HE.out.1] at HA
      have D3 : Hid (Ar wa g2 0 .u8 z4) := HA3.out.below HB.out o3
      go_wp2_with (first
        | (refine load_law _ rfl (.tmp 5) 69 rfl .u8 zs g3 0 rfl HA.out 4 5 Tryd.underlying69 i_arr4 HE.out.2 ?_)
        | (refine store_lawF _ rfl (.tmp 4) (.tmp 32) 69 rfl .u8 z4 zs g2 rfl rfl D3.out 4 i_arr4 rfl HE.out.2 ?_; intro w7 A7 B7))
      refine bodyPost_ret (v := .agg (ints .u8 zs)) (results_ar rfl _ _ g2 0 .u8 zs rfl A7 4 5 Tryd.underlying69 i_arr4 HE.out.2) rfl ⟨rfl, ?_⟩
      exact (BW.trans (hB.mono (by omega))).trans (B7.mono (by omega))

set_option maxHeartbeats 2000000 in
theorem mix_any (cs : List Nat) (w : World) (hc : Col cs) :
    Calls Tryd.prog 55 #[.agg (ints .u8 (cI cs))] w fun e w' => e = .returned (.agg (ints .u8 (cI (trn cs mixW)))) ∧ Below w.heap.size w w' := by
  have HW : Hid (∀ w0, Calls Tryd.prog 63 #[.agg (ints .u8 (cI cs)), .agg (ints .u8 (cI mixW))] w0 fun e w' => e = .returned (.agg (ints .u8 (cI (trn cs mixW)))) ∧ Below w0.heap.size w0 w') := fun w0 => weigh_any cs mixW w0 hc mixW_col
  have LC : Hid ((cI cs).length = 4) := by show _ = _; rw [cI_len]; exact hc.1
  have LZ : Hid ((cI (trn cs mixW)).length = 4) := rfl
  obtain ⟨ys, hys⟩ : ∃ ys, ys = cI mixW := ⟨_, rfl⟩
  have HY : Hid (ys = cI mixW) := hys
  rw [← hys] at HW
  generalize cI (trn cs mixW) = zs at *
  generalize cI cs = xs at *
  clear hys hc
  go_enter Tryd.func55, Tryd.ntmps55
  go_wp2_with (first
    | (refine box_lawF _ rfl (.tmp 0) 69 rfl .u8 xs rfl ?_; intro w1 A1 B1 s1; have HA1 : Hid (Ar w1 w.heap.size 0 .u8 xs) := A1; clear A1)
    | (have q1 := s1; refine new_lawF _ rfl 69 rfl .u8 z4 z_arr4 ?_; intro w2 A2 B2 s2; have HA2 : Hid (Ar w2 w1.heap.size 0 .u8 z4) := A2; clear A2; have D1 : Hid (Ar w2 w.heap.size 0 .u8 xs) := HA1.out.below B2 s1)
    | (have q2 := s2; refine load_law _ rfl (.tmp 1) 69 rfl .u8 xs w.heap.size 0 rfl D1.out 4 5 Tryd.underlying69 i_arr4 LC.out ?_)
    | (have q2 := s2; refine build_law _ rfl 69 _ rfl (.agg (ints .u8 ys)) (by rw [HY.out]; kernel_rfl) ?_)
    | (go_at_call 63; refine (HW.out _).mono ?_; rintro e w3 ⟨rfl, B3⟩; have HA3 : Hid (Ar w3 w1.heap.size 0 .u8 z4) := HA2.out.below B3 s2)
    | (refine store_lawF _ rfl (.tmp 2) (.tmp 5) 69 rfl .u8 z4 zs w1.heap.size rfl rfl HA3.out 4 i_arr4 rfl LZ.out ?_; intro w4 A4 B4))
  refine bodyPost_ret (v := .agg (ints .u8 zs)) (results_ar rfl _ _ w1.heap.size 0 .u8 zs rfl A4 4 5 Tryd.underlying69 i_arr4 LZ.out) rfl ⟨rfl, ?_⟩
  exact ((B1.trans (B2.mono (by omega))).trans (B3.mono (by omega))).trans (B4.mono (by omega))
end Go.Proofs.YtifepmdhbhdjpaaDoor

