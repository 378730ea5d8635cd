/- Texts put together (a claim holds few files). No claim of its own. -/
import Derived.Test.YtijadglmbopboaaPackD
import Derived.Test.YtijadglmbopboaaPackB
import Derived.Laws.AppendOwnNone
import Derived.Test.YtijadglmbopboaaPackA
import Derived.Test.YtijadglmbopboaaPackC
/- What xts' Masks answers. No claim of its own. -/
namespace Go.Proofs.Ytijadglmbopboaa.xt
open Go.RowKit

/-- a row of n masks in block g -/
def Msks (w : World) (g n M : Nat) : Prop := (∃ p, tw.Rw w g p n n (fun k => msk M k)) ∧ g < w.heap.size
theorem Msks.below {w w' : World} {g n M : Nat} (h : Msks w g n M) (hb : Below w.heap.size w w') : Msks w' g n M := by
  obtain ⟨⟨p, h1⟩, h2⟩ := h
  exact ⟨⟨p, h1.below hb h2 (fun i => (msk_blk M i).1)⟩, Nat.lt_of_lt_of_le h2 hb.size⟩
theorem Msks.at_ {w : World} {g n M : Nat} (h : Msks w g n M) (k : Nat) (hk : k < n) : ∃ gi, w.cell? ⟨g, k, none⟩ = some (.slice (some ⟨gi, 0, none⟩) 16 16) ∧ Byt w (.slice (some ⟨gi, 0, none⟩) 16 16) (msk M k) := by
  obtain ⟨⟨p, h1⟩, h2⟩ := h
  obtain ⟨gi, -, h3, h4⟩ := h1.2 k hk
  exact ⟨gi, h3, h4.bytG (msk_blk M k).2 16 16 (msk_blk M k).1 (by omega) (by omega)⟩

set_option maxHeartbeats 2000000 in
theorem masks_any (c : Nat) (v : Value) (dk tk ab : List Int) (n : Nat) (w : World) (hc : Cip w c dk tk) (htl : tk.length = 32) (hta : AllB tk) (hv : Byt w v ab) (hal : ab.length = 16) (hn : n ≤ 256) :
    Calls Try.prog 17 #[.pointer (some ⟨c, 0, none⟩), v, .int .i64 (n : Int)] w fun e w' => ∃ g, e = .returned (.tuple #[.slice (some ⟨g, 0, none⟩) n n, .int .i64 0]) ∧ Msks w' g n (nm16 (encr tk ab)) ∧ w.heap.size ≤ g ∧ Below w.heap.size w w' := by
  obtain ⟨kd, kt, c0, c1, -, k1⟩ := hc
  have zb := encr_blk tk htl hta ab ⟨hal, hv.all⟩
  have S1 : Hid (Calls Try.prog 22 #[.pointer (some ⟨kt, 0, none⟩), v] w fun e w' => ∃ g, e = .returned (.tuple #[.slice (some ⟨g, 0, none⟩) 16 16, .int .i64 0]) ∧ Ar w' g 0 .u8 (encr tk ab) ∧ w.heap.size ≤ g ∧ Below w.heap.size w w') := encrypt_any v ab tk kt w k1 htl hta hv hal
  have S2 : Hid (∀ u w0, Byt w0 u (encr tk ab) → Calls Try.prog 27 #[u, .int .i64 (n : Int)] w0 fun e w' => ∃ g, e = .returned (.tuple #[.slice (some ⟨g, 0, none⟩) n n, .int .i64 0]) ∧ Msks w' g n (nm16 (encr tk ab)) ∧ w0.heap.size ≤ g ∧ Below w0.heap.size w0 w') := fun u w0 h =>
    (tw.list_any u (encr tk ab) n w0 h zb.1 hn).mono fun _ _ ⟨g, h1, h2, h3, h4, h5⟩ => ⟨g, h1, ⟨h2, h3⟩, h4, h5⟩
  have ZB : Hid ((encr tk ab).length = 16 ∧ AllB (encr tk ab)) := ⟨zb.1, zb.2⟩
  generalize nm16 (encr tk ab) = M at *
  generalize encr tk ab = zs at *
  clear c0 k1 zb hal htl hta hv
  go_enter Try.func17, Try.ntmps17
  go_wp2_with (first
    | (have q1 := L1; go_at_call 27; refine (S2.out _ _ Y1.out).mono ?_; rintro e w2 ⟨g2, rfl, m2, L2, B2⟩; have M2 : Hid (Msks w2 g2 n M) := m2; clear m2)
    | (go_at_call 22; refine (S1.out).mono ?_; rintro e w1 ⟨g1, rfl, a1, L1, B1⟩; have Y1 : Hid (Byt w1 (.slice (some ⟨g1, 0, none⟩) 16 16) zs) := a1.bytG ZB.out.2 16 16 ZB.out.1 (by omega) (by omega); clear a1))
  have z1 := B1.size
  go_ret2
  exact ⟨_, rfl, M2.out, by omega, B1.trans (B2.mono z1)⟩

set_option maxHeartbeats 1000000 in
theorem masks_nil (v : Value) (n : Int) (w : World) :
    Calls Try.prog 17 #[.pointer none, v, .int .i64 n] w fun e w' => e = .returned (.tuple #[.slice none 0 0, .int .i64 2]) ∧ w' = w := by
  go_enter Try.func17, Try.ntmps17
  go_wp2
  go_ret2
  exact ⟨rfl, rfl⟩

set_option maxHeartbeats 1000000 in
theorem masks_raw (c : Nat) (p v : Value) (n : Int) (w : World) (c1 : w.cell? ⟨c, 1, none⟩ = some p) (hp : ∃ q, p = .pointer q) (ht : Calls Try.prog 40 #[p, v] w fun e w' => e = .returned (.bool false) ∧ w' = w) :
    Calls Try.prog 17 #[.pointer (some ⟨c, 0, none⟩), v, .int .i64 n] w fun e w' => e = .returned (.tuple #[.slice none 0 0, .int .i64 2]) ∧ w' = w := by
  have S1 : Hid (Calls Try.prog 22 #[p, v] w fun e w' => e = .returned (.tuple #[.slice none 0 0, .int .i64 2]) ∧ w' = w) := encrypt_no p v w ht
  clear ht
  obtain ⟨q, rfl⟩ := hp
  go_enter Try.func17, Try.ntmps17
  go_wp2_with (go_at_call 22; refine (S1.out).mono ?_; rintro e wx ⟨rfl, hw⟩; obtain rfl := hw.symm)
  go_ret2
  exact ⟨rfl, rfl⟩

theorem masks_len (c : Nat) (v : Value) (dk tk ab : List Int) (n : Int) (w : World) (hc : Cip w c dk tk) (hv : Byt w v ab) (hal : ¬ ab.length = 16) :
    Calls Try.prog 17 #[.pointer (some ⟨c, 0, none⟩), v, .int .i64 n] w fun e w' => e = .returned (.tuple #[.slice none 0 0, .int .i64 2]) ∧ w' = w := by
  obtain ⟨kd, kt, c0, c1, -, k1⟩ := hc
  exact masks_raw c _ v n w c1 ⟨_, rfl⟩ (takes_len v ab tk kt w k1 hv hal)

set_option maxHeartbeats 2000000 in
theorem masks_n (c : Nat) (v : Value) (dk tk ab : List Int) (n : Int) (w : World) (hc : Cip w c dk tk) (htl : tk.length = 32) (hta : AllB tk) (hv : Byt w v ab) (hal : ab.length = 16) (hn : n < 0 ∨ 256 < n) :
    Calls Try.prog 17 #[.pointer (some ⟨c, 0, none⟩), v, .int .i64 n] w fun e w' => e = .returned (.tuple #[.slice none 0 0, .int .i64 2]) ∧ Below w.heap.size w w' := by
  obtain ⟨kd, kt, c0, c1, -, k1⟩ := hc
  have zb := encr_blk tk htl hta ab ⟨hal, hv.all⟩
  have S1 : Hid (Calls Try.prog 22 #[.pointer (some ⟨kt, 0, none⟩), v] w fun e w' => ∃ g, e = .returned (.tuple #[.slice (some ⟨g, 0, none⟩) 16 16, .int .i64 0]) ∧ Ar w' g 0 .u8 (encr tk ab) ∧ w.heap.size ≤ g ∧ Below w.heap.size w w') := encrypt_any v ab tk kt w k1 htl hta hv hal
  have S2 : Hid (∀ u w0, Byt w0 u (encr tk ab) → Calls Try.prog 27 #[u, .int .i64 n] w0 fun e w' => e = .returned (.tuple #[.slice none 0 0, .int .i64 2]) ∧ w' = w0) := fun u w0 h => tw.list_no u (encr tk ab) n w0 h (Or.inr hn)
  have ZB : Hid ((encr tk ab).length = 16 ∧ AllB (encr tk ab)) := ⟨zb.1, zb.2⟩
  generalize encr tk ab = zs at *
  clear c0 k1 zb hal htl hta hv hn
  go_enter Try.func17, Try.ntmps17
  go_wp2_with (first
    | (have q1 := L1; go_at_call 27; refine (S2.out _ _ Y1.out).mono ?_; rintro e wx ⟨rfl, hw⟩; obtain rfl := hw.symm)
    | (go_at_call 22; refine (S1.out).mono ?_; rintro e w1 ⟨g1, rfl, a1, L1, B1⟩; have Y1 : Hid (Byt w1 (.slice (some ⟨g1, 0, none⟩) 16 16) zs) := a1.bytG ZB.out.2 16 16 ZB.out.1 (by omega) (by omega); clear a1))
  go_ret2
  exact ⟨rfl, B1⟩
end Go.Proofs.Ytijadglmbopboaa.xt

/- Rows of slices that a call has made, words of four bytes in them; 'append' of bytes and of a slice. No claim of its own. -/
namespace Go.Proofs.Ytijadglmbopboaa
open Go.RowKit

/-- 'append(out, s...)' of bytes, out of the call's own -/
theorem pushs_lawG {ops : Array Oper} {rest : List Oper} {o : Oper} {a : Act} {Q : Exit → Act → World → Prop} (w : World) (hg : o.guard = none) (s x : Operand) (hop : o.op = .call { callee := .builtin .append, args := #[s, x], argTypes := #[22, 22] })
    (B : Nat) (hB : B ≤ w.heap.size) (v vy : Value) (xs ys : List Int) (hs : a.eval s = v) (hx : a.eval x = vy) (hown : Own B w v xs) (hy : Byt w vy ys) (hn : xs.length ≤ 1099511627776) (hm : ys.length ≤ 1099511627776)
    (hK : ∀ v' w', Own B w' v' (xs ++ ys) → Below B w w' → wpList Try.prog ops Q rest (a.put o.dst v') w') :
    wpList Try.prog ops Q (o :: rest) a w := by
  obtain ⟨i0, hi, hz0, hz1, hz2⟩ := info_parts info_u8
  obtain ⟨ao, cap, rfl, h1, h2, h3, h4, h5⟩ := hy
  cases ao with
  | none =>
    have hc := h4 rfl
    subst hc
    have : ys = [] := List.eq_nil_of_length_eq_zero (by omega)
    subst this
    refine wpList_append_own_none hg s x 22 hop B 5 i0 1 Try.underlying22 hi v xs.length _ hs hown hx (hK v w ?_ (Below.refl _ _))
    rwa [List.append_nil]
  | some ad =>
    refine wpList_append_own _ hg s x 22 hop B 5 i0 (.int .u8 0) 1 1 Try.underlying22 hi hz0 hz1 hz2 rfl (by decide) v xs.length _ hs hown ad ys.length cap (ys.map (Value.int .u8)) hx (by simp) ?_ ?_ (by simp only [maxLen]; omega) (by omega) hB fun v' w' h1 h2 _ => ?_
    · intro j u hj
      have hjl : j < ys.length := by have := (List.getElem?_eq_some_iff.1 hj).1; simpa using this
      obtain ⟨b, off, e, hc⟩ := h5 (by omega)
      cases e
      rw [Addr.add_mid, hc j hjl, ← hj]
      simp [gb, List.getD, hjl]
    · intro u hu
      simp only [List.mem_map] at hu
      obtain ⟨y, _, rfl⟩ := hu
      rfl
    · refine hK v' w' ?_ ?_
      · show w'.ownsRow B 5 1 v' (xs ++ ys).length ((xs ++ ys).map (Value.int .u8))
        simpa using h1
      · exact (Below.refl B w).grown h2 hB fun k hk => (World.ownsRow.lt hown k hk).1

theorem info_bytes : (Try.prog.info? 22).map (fun i => (i.zero, i.size, i.bytes)) = some (some (.slice none 0 0), 1, 24) := by kernel_rfl
theorem und_bytess : Try.prog.underlying 38 = some (.slice (Try.prog.elem 38)) := by kernel_rfl
theorem elem_bytess : Try.prog.elem 38 = 22 := by kernel_rfl

/-- v owns the slices us, in a block from B on -/
def OwnS (B : Nat) (w : World) (v : Value) (us : List Value) : Prop := w.ownsRow B 22 1 v us.length us
theorem OwnS.empty (w : World) {B : Nat} (hB : B ≤ w.heap.size) : OwnS B (w.alloc (.cells #[] 22)) (.slice (some ⟨w.heap.size, 0, none⟩) 0 0) [] :=
  World.ownsRow_made w #[] 0 hB (by simp [maxLen]) (by simp)
theorem OwnS.at_ {B : Nat} {w : World} {v : Value} {us : List Value} (h : OwnS B w v us) (hp : 0 < us.length) :
    ∃ g cap cur, v = .slice (some ⟨g, 0, none⟩) us.length cap ∧ us.length ≤ cap ∧ cap ≤ 9223372036854775807 ∧ B ≤ g ∧ w.heap[g]? = some (.cells cur 22 (0, 0)) ∧ ∀ t u, us[t]? = some u → w.cell? ⟨g, t, none⟩ = some u := by
  rcases h.2 with ⟨rfl, hn⟩ | ⟨g, cap, cur, rfl, hg, hb, hc, hm, hs, ht⟩
  · omega
  · refine ⟨g, cap, cur, rfl, hc, by simpa [maxLen] using hm, hg, hb, fun t u hu => ?_⟩
    have := World.ownsRow.cells h (g := g) rfl t u hu
    rwa [Addr.add_lit, Nat.zero_add] at this
theorem OwnS.below {B : Nat} {w w' : World} {v : Value} {us : List Value} (h : OwnS B w v us) (hb : Below w.heap.size w w') : OwnS B w' v us :=
  World.ownsRow.kept (row := none) h ⟨hb.os, hb.tape, hb.output, hb.size, fun j hj _ => hb.block j hj⟩ (by cases hv : v.ownBlock <;> simp)

/-- u is a slice of the four bytes x, which lie below B or in a block of bytes -/
def Wrd4 (B : Nat) (w : World) (u : Value) (x : List Int) : Prop :=
  ∃ b off cap, u = .slice (some ⟨b, off, none⟩) 4 cap ∧ 4 ≤ cap ∧ cap ≤ 9223372036854775807 ∧ (b < B ∨ ∃ cur f, w.heap[b]? = some (.cells cur 5 f)) ∧ ∀ j, j < 4 → w.cell? ⟨b, off + j, none⟩ = some (.int .u8 (gb x j))
theorem Wrd4.byt {B : Nat} {w : World} {u : Value} {x : List Int} (h : Wrd4 B w u x) (hx : Wd x) : Byt w u x := by
  obtain ⟨b, off, cap, rfl, h1, h2, _, h4⟩ := h
  exact ⟨some ⟨b, off, none⟩, cap, by rw [hx.1], by rw [hx.1]; exact h1, h2, hx.2, (by intro h; cases h), fun _ => ⟨b, off, rfl, fun t ht => h4 t (by rw [hx.1] at ht; exact ht)⟩⟩
theorem Wrd4.below {B : Nat} {w w' : World} {u : Value} {x : List Int} (h : Wrd4 B w u x) (hb : Below w.heap.size w w') : Wrd4 B w' u x := by
  obtain ⟨b, off, cap, rfl, h1, h2, h3, h4⟩ := h
  have hlt : b < w.heap.size := World.block_lt_of_cell? w _ (h4 0 (by omega))
  refine ⟨b, off, cap, rfl, h1, h2, ?_, fun j hj => by rw [hb.cell hlt]; exact h4 j hj⟩
  rw [hb.block b hlt]; exact h3
/-- it lasts when a row of slices of the call's own grows -/
theorem Wrd4.grown {B : Nat} {w w' : World} {u v : Value} {x : List Int} {us : List Value} (h : Wrd4 B w u x) (ho : OwnS B w v us) (hg : w.grownBy w' v.ownBlock) : Wrd4 B w' u x := by
  obtain ⟨b, off, cap, rfl, h1, h2, h3, h4⟩ := h
  have hlt : b < w.heap.size := World.block_lt_of_cell? w _ (h4 0 (by omega))
  have hne : some b ≠ v.ownBlock := by
    rcases ho.2 with ⟨rfl, _⟩ | ⟨g, cap, cur, rfl, hgB, hb, _⟩
    · simp [Value.ownBlock]
    · intro e
      simp [Value.ownBlock] at e
      subst e
      rcases h3 with h3 | ⟨cur', f, h3⟩
      · omega
      · rw [hb] at h3
        injection h3 with h3
        injection h3 with _ h5
        exact absurd h5 (by decide)
  have e := hg.block b hlt hne
  refine ⟨b, off, cap, rfl, h1, h2, by rw [e]; exact h3, fun j hj => ?_⟩
  rw [World.cell?_of_block (w := w) (w' := w') (a := ⟨b, off + j, none⟩) e]; exact h4 j hj
theorem Own.wrd4 {B B' : Nat} {w : World} {v : Value} {x : List Int} (h : Own B' w v x) (hx : Wd x) : Wrd4 B w v x := by
  have hb := h.byt hx.2
  rcases h.2 with ⟨rfl, hn⟩ | ⟨g, cap, cur, rfl, hg, hbb, hc, hm, hs, ht⟩
  · rw [hx.1] at hn; omega
  · obtain ⟨ao, cap', e, h1, h2, h3, h4, h5⟩ := hb
    obtain ⟨b, off, rfl, hcell⟩ := h5 (by rw [hx.1]; omega)
    injection e with e1 e2 e3
    injection e1 with e1
    injection e1 with e4 e5
    subst e4 e3 e5
    refine ⟨g, 0, cap, by rw [hx.1], by rw [← hx.1]; exact h1, h2, Or.inr ⟨cur, (0, 0), hbb⟩, fun j hj => hcell j (by rw [hx.1]; exact hj)⟩

section
variable {ops : Array Oper} {rest : List Oper} {o : Oper} {a : Act} {Q : Exit → Act → World → Prop}
/-- 'append(w, u)' of a slice, w of the call's own -/
theorem push_lawS (w0 : World) (hg : o.guard = none) (s x : Operand) (hop : o.op = .call { callee := .builtin .append, args := #[s, x], argTypes := #[38, 38] })
    (B : Nat) (hB : B ≤ w0.heap.size) (v : Value) (us : List Value) (u : Value) (hu : u.oneCell' = true) (hs : a.eval s = v) (hx : a.eval x = .slice (some ⟨w0.heap.size, 0, none⟩) 1 1) (hown : OwnS B w0 v us) (hn : us.length ≤ 1000)
    (hK : ∀ v' w', OwnS B w' v' (us ++ [u]) → Below B w0 w' → (∀ u' y, Wrd4 B w0 u' y → Wrd4 B w' u' y) → wpList Try.prog ops Q rest (a.put o.dst v') w') :
    wpList Try.prog ops Q (o :: rest) a (w0.alloc (.cells #[u] 22)) := by
  obtain ⟨i0, hi, hz0, hz1, hz2⟩ := info_parts info_bytes
  have hown2 : OwnS B (w0.alloc (.cells #[u] 22)) v us := World.ownsRow.alloc hown _
  refine wpList_append_own _ hg s x 38 hop B 22 i0 (.slice none 0 0) 1 24 Try.underlying38 hi hz0 hz1 hz2 rfl (by decide) v us.length _ hs hown2 ⟨w0.heap.size, 0, none⟩ 1 1 [u] hx rfl ?_ ?_ (by simp only [maxLen]; omega) (by omega) (by simp; omega) fun v' w' h1 h2 _ => ?_
  · intro j y hj
    match j, hj with
    | 0, hj => simp at hj; subst hj; simp [Addr.add]
  · intro y hy; simp at hy; subst hy; exact hu
  · refine hK v' w' ?_ ?_ fun u' y h => (h.below ((Below.refl _ _).alloc (Nat.le_refl _) _)).grown hown2 h2
    · show w'.ownsRow B 22 1 v' (us ++ [u]).length (us ++ [u])
      simpa using h1
    · refine ((Below.refl B w0).alloc hB _).grown h2 (by simp; omega) fun k hk => ?_
      exact (World.ownsRow.lt hown k hk).1
end

section
variable {ops : Array Oper} {o : Oper} {a : Act} {Q : Exit → Act → World → Prop} {K : Act → World → Prop} {E : Prop}
/-- '[]byte{x0, x1, x2, x3}' in a region that draws its order -/
theorem step_build4 (w : World) (hg : o.guard = none) (d : Option Tmp) (hd : o.dst = d) (x0 x1 x2 x3 : Operand) (hop : o.op = Op.buildSlice 22 4 #[(0, x0), (1, x1), (2, x2), (3, x3)]) (c0 c1 c2 c3 : Int)
    (h0 : a.eval x0 = .int .u8 c0) (h1 : a.eval x1 = .int .u8 c1) (h2 : a.eval x2 = .int .u8 c2) (h3 : a.eval x3 = .int .u8 c3)
    (hK : ∀ w', Ar w' w.heap.size 0 .u8 [c0, c1, c2, c3] → Below w.heap.size w w' → w.heap.size < w'.heap.size → K (a.put d (.slice (some ⟨w.heap.size, 0, none⟩) 4 4)) w') : if Region.wanted o (yielded ops a.tmps) = true then Oper.wp Try.prog o a w K Q else E := by
  have hw : Region.wanted o (yielded ops a.tmps) = true := by simp [Region.wanted, hg]
  rw [if_pos hw]
  subst hd
  have hrun : (Instr.buildSlice 22 4 #[(0, .int .u8 c0), (1, .int .u8 c1), (2, .int .u8 c2), (3, .int .u8 c3)]).run Try.prog w = .ok (.slice (some ⟨w.heap.size, 0, none⟩) 4 4) (w.alloc (.cells (ints .u8 [c0, c1, c2, c3]) 5)) := by kernel_rfl
  unfold Oper.wp execOp
  simp only [hop, List.map_toArray, List.map_cons, List.map_nil, h0, h1, h2, h3, Sem.run_bind, Sem.run_pure, Result.andThen_ok, hrun]
  exact hK _ (Ar.new w _ _ _) ((Below.refl _ _).alloc (Nat.le_refl _) _) (by simp)
end
end Go.Proofs.Ytijadglmbopboaa

/- What xts' turned answers. No claim of its own. -/
namespace Go.Proofs.Ytijadglmbopboaa.xt
open Go.RowKit

/-- 'make([]byte, 0, n)': room for n bytes -/
theorem make_room {ops : Array Oper} {rest : List Oper} {o : Oper} {a : Act} {Q : Exit → Act → World → Prop} (w : World) (hg : o.guard = none) (l c : Operand) (hop : o.op = Op.makeSlice 22 l c)
    (C : Int) (n : Nat) (hl : a.eval l = .int .i64 0) (hc : a.eval c = .int .i64 C) (hC : C = (n : Int)) (hn : n ≤ 1099511627776)
    (hK : ∀ v w', Own w.heap.size w' v [] → Below w.heap.size w w' → wpList Try.prog ops Q rest (a.put o.dst v) w') :
    wpList Try.prog ops Q (o :: rest) a w := by
  obtain ⟨i0, hi, hz0, hz1, hz2⟩ := info_parts info_u8
  refine wpList_make_own w hg l c 22 hop w.heap.size 5 i0 (.int .u8 0) 1 Try.underlying22 hi hz0 hz1 .i64 .i64 C n hl hc hC (by rw [hz2]; omega) (by simp only [maxLen]; omega) (Nat.le_refl _) fun w' h1 h2 => ?_
  exact hK _ w' h1 ((Below.refl _ w).grown h2 (Nat.le_refl _) (fun k hk => by cases hk))

set_option linter.unusedSimpArgs false in
set_option maxRecDepth 20000 in
set_option maxHeartbeats 4000000 in
theorem turned_enc (c kd : Nat) (av sv : Value) (dk tk ab s : List Int) (N : Nat) (w : World) (hc : Cip w c dk tk) (hkd : KeyA w kd dk) (hdl : dk.length = 32) (hda : AllB dk) (htl : tk.length = 32) (hta : AllB tk) (ha : Byt w av ab) (hal : ab.length = 16) (hs : Byt w sv s) (hsl : s.length = 16 * N) (hN : 1 ≤ N) (hN' : N ≤ 256) :
    Calls Try.prog 21 #[.pointer (some ⟨c, 0, none⟩), av, sv, .func (.func 22) #[.pointer (some ⟨kd, 0, none⟩)] #[]] w fun e w' => ∃ v', e = .returned (.tuple #[v', .int .i64 0]) ∧ Byt w' v' (run (xe dk) (nm16 (encr tk ab)) s N) ∧ Below w.heap.size w w' := by
  have hsa := hs.all
  have HM : Hid (Calls Try.prog 17 #[.pointer (some ⟨c, 0, none⟩), av, .int .i64 (N : Int)] w fun e w' => ∃ g, e = .returned (.tuple #[.slice (some ⟨g, 0, none⟩) N N, .int .i64 0]) ∧ Msks w' g N (nm16 (encr tk ab)) ∧ w.heap.size ≤ g ∧ Below w.heap.size w w') := masks_any c av dk tk ab N w hc htl hta ha hal hN'
  have HI : Hid (Calls Try.prog 38 #[sv] w fun e w' => e = .returned (.bool true) ∧ w' = w) := sector_any w sv s hs true (by simp; omega)
  have kp : Keeps (xe dk) := fun m b hm hb => xe_blk dk hdl hda m b hm hb
  have HU : Hid (∀ k, k < N → ∀ w' bv mv, KeyA w' kd dk → Byt w' bv (cut16 s k) → Byt w' mv (msk (nm16 (encr tk ab)) k) → Calls Try.prog 39 #[bv, mv, .func (.func 22) #[.pointer (some ⟨kd, 0, none⟩)] #[]] w' fun e w'' => ∃ v', e = .returned (.tuple #[v', .int .i64 0]) ∧ Byt w'' v' (xe dk (msk (nm16 (encr tk ab)) k) (cut16 s k)) ∧ Below w'.heap.size w' w'') := fun k hk w' bv mv h1 h2 h3 => under_enc kd bv mv dk _ _ w' h1 hdl hda h2 (cut16_len s k (by omega)) h3 (msk_blk _ k).1
  have HR0 : Hid (run (xe dk) (nm16 (encr tk ab)) s 0 = []) := rfl
  have HRS : Hid (∀ k, run (xe dk) (nm16 (encr tk ab)) s (k + 1) = run (xe dk) (nm16 (encr tk ab)) s k ++ xe dk (msk (nm16 (encr tk ab)) k) (cut16 s k)) := fun k => rfl
  have HRL : Hid (∀ k, k ≤ N → (run (xe dk) (nm16 (encr tk ab)) s k).length = 16 * k ∧ AllB (run (xe dk) (nm16 (encr tk ab)) s k)) := fun k hk => ⟨run_len _ kp _ s hsa k (by omega), run_all _ kp _ s hsa k (by omega)⟩
  have HXL : Hid (∀ k, k < N → (xe dk (msk (nm16 (encr tk ab)) k) (cut16 s k)).length = 16) := fun k hk => (kp _ _ (msk_blk _ k) (cut16_blk s k hsa (by omega))).1
  have HS : Hid (Byt w sv s) := hs
  have HK : Hid (KeyA w kd dk) := hkd
  have lk : kd < w.heap.size := hkd.lt
  clear hkd hc ha hal hdl hda htl hta kp hsa
  generalize nm16 (encr tk ab) = M at *
  obtain ⟨R, hR⟩ : ∃ R : Nat → List Int, R = run (xe dk) M s := ⟨_, rfl⟩
  obtain ⟨X, hX⟩ : ∃ X : Nat → List Int, X = fun k => xe dk (msk M k) (cut16 s k) := ⟨_, rfl⟩
  have ex : ∀ k, xe dk (msk M k) (cut16 s k) = X k := fun k => by rw [hX]
  rw [← hR] at HR0 HRS HRL ⊢
  simp only [ex] at HU HRS HXL
  clear hR hX ex
  obtain ⟨ao, ca, rfl, ha1, ha2, -, -, -⟩ := hs
  have HSL : Hid (s.length = 16 * N) := hsl
  have d1 : (s.length : Int).tdiv 16 = (N : Int) := by rw [Int.tdiv_eq_ediv_of_nonneg (by omega)]; omega
  have d2 : IntKind.i64.wrap (N : Int) = N := by rw [IntKind.wrap_i64]; omega
  have HLN : Hid (s.length ≤ 4096) := by show _ ≤ _; omega
  clear hsl
  go_enter Try.func21, Try.ntmps21
  go_wp2_with (first
    | (at_make; have q1 := L1; refine make_room _ rfl _ _ rfl _ s.length rfl rfl rfl (by have := HLN.out; omega) ?_; intro v2 w2 O2 B2; have HO2 : Hid (Own w1.heap.size w2 v2 []) := O2; clear O2)
    | (go_at_call 17; refine (HM.out).mono ?_; rintro e w1 ⟨g1, rfl, m1, L1, B1⟩; have M1 : Hid (Msks w1 g1 N M) := m1; clear m1)
    | (go_at_call 38; refine (HI.out).mono ?_; rintro e wx ⟨rfl, hw⟩; obtain rfl := hw.symm))
  have K1 : Hid (KeyA w1 kd dk) := HK.out.below B1 lk
  have S1 : Hid (Byt w1 (.slice ao s.length ca) s) := HS.out.below B1
  have z1 := B1.size
  have HB1 : Hid (Below w.heap.size w w1) := B1
  have HB2 : Hid (Below w1.heap.size w1 w2) := B2
  clear B1 B2 HM HI HK HS
  go_loopw [38, 12] (fun i o wr => ∃ k : Nat, k ≤ N ∧ i = .int .i64 k ∧ Own w1.heap.size wr o (R k) ∧ Below w1.heap.size w1 wr) (fun i _ _ => N - (intOf i).toNat)
  case atStart => exact ⟨0, Nat.zero_le _, rfl, by rw [HR0.out]; exact HO2.out, HB2.out⟩
  case round =>
    obtain ⟨k, hk, rfl, hO, hB⟩ := hrel
    obtain ⟨wa, rfl⟩ : ∃ wx, wx = wr := ⟨_, rfl⟩
    have k0 : (0 : Int) ≤ (k : Int) := by omega
    have q1 : IntKind.i64.wrap (k : Int) = k := by rw [IntKind.wrap_i64]; omega
    have HO : Hid (Own w1.heap.size wa u12 (R k)) := hO
    have HB : Hid (Below w1.heap.size w1 wa) := hB
    clear hO hB
    by_cases hlt : k < N
    · have k1 : (k : Int) < (N : Int) := by omega
      obtain ⟨gi, c1, y1⟩ := (M1.out.below HB.out).at_ k hlt
      have YM : Hid (Byt wa (.slice (some ⟨gi, 0, none⟩) 16 16) (msk M k)) := y1
      have YS : Hid (Byt wa (.slice ao s.length ca) s) := S1.out.below HB.out
      have KA : Hid (KeyA wa kd dk) := K1.out.below HB.out (by have := K1.out.lt; omega)
      have q2 : IntKind.i64.wrap (16 * (k : Int)) = 16 * (k : Int) := by rw [IntKind.wrap_i64]; omega
      have q3 : IntKind.i64.wrap (16 * (k : Int) + 16) = 16 * (k : Int) + 16 := by rw [IntKind.wrap_i64]; omega
      have HUk : Hid (∀ w' bv mv, KeyA w' kd dk → Byt w' bv (cut16 s k) → Byt w' mv (msk M k) → Calls Try.prog 39 #[bv, mv, .func (.func 22) #[.pointer (some ⟨kd, 0, none⟩)] #[]] w' fun e w'' => ∃ v', e = .returned (.tuple #[v', .int .i64 0]) ∧ Byt w'' v' (X k) ∧ Below w'.heap.size w' w'') := HU.out k hlt
      have XL : Hid ((X k).length = 16) := HXL.out k hlt
      have RL : Hid ((R k).length = 16 * k) := (HRL.out k hk).1
      clear y1
      go_wp2_with (first
        | (at_builtin; have q5 := s5; refine pushs_lawG _ rfl (.tmp 59) (.tmp 60) rfl w1.heap.size (by have := HB5.out.size; omega) _ v5 (R k) (X k) rfl rfl HO5.out Y5.out (by rw [RL.out]; omega) (by rw [XL.out]; omega) ?_; intro v6 w6 O6 B6; have HO6 : Hid (Own w1.heap.size w6 v6 (R (k + 1))) := (by show Own _ _ _ _; rw [HRS.out]; exact O6); have HB6 : Hid (Below w1.heap.size w1 w6) := HB5.out.trans B6; clear O6 B6)
        | (go_at_call 39; refine (HUk.out _ _ _ KA.out YC.out YM.out).mono ?_; rintro e w5 ⟨v5, rfl, y5, B5⟩; have s5 := B5.size; have Y5 : Hid (Byt w5 v5 (X k)) := y5; have HO5 : Hid (Own w1.heap.size w5 u12 (R k)) := Own.below HO.out B5; have HB5 : Hid (Below w1.heap.size w1 w5) := HB.out.trans (B5.mono (HB.out.size)); clear y5 B5)
        | (refine cut_part _ rfl (.tmp 46) (.tmp 47) (.tmp 49) rfl _ s (16 * (k : Int)) (16 * (k : Int) + 16) (16 * k) (16 * k + 16) rfl rfl rfl (by omega) (by omega) (by omega) (by rw [HSL.out]; omega) YS.out ?_; intro vc yc; have YC : Hid (Byt wa vc (cut16 s k)) := yc; clear yc))
      go_roundw
      case rel => exact ⟨k + 1, by omega, by go_num, HO6.out, HB6.out⟩
      case measure => simp [intOf]; omega
    · have hkn : k = N := by omega
      subst hkn
      go_wp2
      go_ret2
      exact ⟨_, rfl, HO.out.byt (HRL.out k (Nat.le_refl _)).2, HB1.out.trans (HB.out.mono z1)⟩

set_option linter.unusedSimpArgs false in
set_option maxRecDepth 20000 in
set_option maxHeartbeats 4000000 in
theorem turned_dec (c kd : Nat) (av sv : Value) (dk tk ab s : List Int) (N : Nat) (w : World) (hc : Cip w c dk tk) (hkd : KeyA w kd dk) (hdl : dk.length = 32) (hda : AllB dk) (htl : tk.length = 32) (hta : AllB tk) (ha : Byt w av ab) (hal : ab.length = 16) (hs : Byt w sv s) (hsl : s.length = 16 * N) (hN : 1 ≤ N) (hN' : N ≤ 256) :
    Calls Try.prog 21 #[.pointer (some ⟨c, 0, none⟩), av, sv, .func (.func 25) #[.pointer (some ⟨kd, 0, none⟩)] #[]] w fun e w' => ∃ v', e = .returned (.tuple #[v', .int .i64 0]) ∧ Byt w' v' (run (xd dk) (nm16 (encr tk ab)) s N) ∧ Below w.heap.size w w' := by
  have hsa := hs.all
  have HM : Hid (Calls Try.prog 17 #[.pointer (some ⟨c, 0, none⟩), av, .int .i64 (N : Int)] w fun e w' => ∃ g, e = .returned (.tuple #[.slice (some ⟨g, 0, none⟩) N N, .int .i64 0]) ∧ Msks w' g N (nm16 (encr tk ab)) ∧ w.heap.size ≤ g ∧ Below w.heap.size w w') := masks_any c av dk tk ab N w hc htl hta ha hal hN'
  have HI : Hid (Calls Try.prog 38 #[sv] w fun e w' => e = .returned (.bool true) ∧ w' = w) := sector_any w sv s hs true (by simp; omega)
  have kp : Keeps (xd dk) := fun m b hm hb => xd_blk dk hdl hda m b hm hb
  have HU : Hid (∀ k, k < N → ∀ w' bv mv, KeyA w' kd dk → Byt w' bv (cut16 s k) → Byt w' mv (msk (nm16 (encr tk ab)) k) → Calls Try.prog 39 #[bv, mv, .func (.func 25) #[.pointer (some ⟨kd, 0, none⟩)] #[]] w' fun e w'' => ∃ v', e = .returned (.tuple #[v', .int .i64 0]) ∧ Byt w'' v' (xd dk (msk (nm16 (encr tk ab)) k) (cut16 s k)) ∧ Below w'.heap.size w' w'') := fun k hk w' bv mv h1 h2 h3 => under_dec kd bv mv dk _ _ w' h1 hdl hda h2 (cut16_len s k (by omega)) h3 (msk_blk _ k).1
  have HR0 : Hid (run (xd dk) (nm16 (encr tk ab)) s 0 = []) := rfl
  have HRS : Hid (∀ k, run (xd dk) (nm16 (encr tk ab)) s (k + 1) = run (xd dk) (nm16 (encr tk ab)) s k ++ xd dk (msk (nm16 (encr tk ab)) k) (cut16 s k)) := fun k => rfl
  have HRL : Hid (∀ k, k ≤ N → (run (xd dk) (nm16 (encr tk ab)) s k).length = 16 * k ∧ AllB (run (xd dk) (nm16 (encr tk ab)) s k)) := fun k hk => ⟨run_len _ kp _ s hsa k (by omega), run_all _ kp _ s hsa k (by omega)⟩
  have HXL : Hid (∀ k, k < N → (xd dk (msk (nm16 (encr tk ab)) k) (cut16 s k)).length = 16) := fun k hk => (kp _ _ (msk_blk _ k) (cut16_blk s k hsa (by omega))).1
  have HS : Hid (Byt w sv s) := hs
  have HK : Hid (KeyA w kd dk) := hkd
  have lk : kd < w.heap.size := hkd.lt
  clear hkd hc ha hal hdl hda htl hta kp hsa
  generalize nm16 (encr tk ab) = M at *
  obtain ⟨R, hR⟩ : ∃ R : Nat → List Int, R = run (xd dk) M s := ⟨_, rfl⟩
  obtain ⟨X, hX⟩ : ∃ X : Nat → List Int, X = fun k => xd dk (msk M k) (cut16 s k) := ⟨_, rfl⟩
  have ex : ∀ k, xd dk (msk M k) (cut16 s k) = X k := fun k => by rw [hX]
  rw [← hR] at HR0 HRS HRL ⊢
  simp only [ex] at HU HRS HXL
  clear hR hX ex
  obtain ⟨ao, ca, rfl, ha1, ha2, -, -, -⟩ := hs
  have HSL : Hid (s.length = 16 * N) := hsl
  have d1 : (s.length : Int).tdiv 16 = (N : Int) := by rw [Int.tdiv_eq_ediv_of_nonneg (by omega)]; omega
  have d2 : IntKind.i64.wrap (N : Int) = N := by rw [IntKind.wrap_i64]; omega
  have HLN : Hid (s.length ≤ 4096) := by show _ ≤ _; omega
  clear hsl
  go_enter Try.func21, Try.ntmps21
  go_wp2_with (first
    | (at_make; have q1 := L1; refine make_room _ rfl _ _ rfl _ s.length rfl rfl rfl (by have := HLN.out; omega) ?_; intro v2 w2 O2 B2; have HO2 : Hid (Own w1.heap.size w2 v2 []) := O2; clear O2)
    | (go_at_call 17; refine (HM.out).mono ?_; rintro e w1 ⟨g1, rfl, m1, L1, B1⟩; have M1 : Hid (Msks w1 g1 N M) := m1; clear m1)
    | (go_at_call 38; refine (HI.out).mono ?_; rintro e wx ⟨rfl, hw⟩; obtain rfl := hw.symm))
  have K1 : Hid (KeyA w1 kd dk) := HK.out.below B1 lk
  have S1 : Hid (Byt w1 (.slice ao s.length ca) s) := HS.out.below B1
  have z1 := B1.size
  have HB1 : Hid (Below w.heap.size w w1) := B1
  have HB2 : Hid (Below w1.heap.size w1 w2) := B2
  clear B1 B2 HM HI HK HS
  go_loopw [38, 12] (fun i o wr => ∃ k : Nat, k ≤ N ∧ i = .int .i64 k ∧ Own w1.heap.size wr o (R k) ∧ Below w1.heap.size w1 wr) (fun i _ _ => N - (intOf i).toNat)
  case atStart => exact ⟨0, Nat.zero_le _, rfl, by rw [HR0.out]; exact HO2.out, HB2.out⟩
  case round =>
    obtain ⟨k, hk, rfl, hO, hB⟩ := hrel
    obtain ⟨wa, rfl⟩ : ∃ wx, wx = wr := ⟨_, rfl⟩
    have k0 : (0 : Int) ≤ (k : Int) := by omega
    have q1 : IntKind.i64.wrap (k : Int) = k := by rw [IntKind.wrap_i64]; omega
    have HO : Hid (Own w1.heap.size wa u12 (R k)) := hO
    have HB : Hid (Below w1.heap.size w1 wa) := hB
    clear hO hB
    by_cases hlt : k < N
    · have k1 : (k : Int) < (N : Int) := by omega
      obtain ⟨gi, c1, y1⟩ := (M1.out.below HB.out).at_ k hlt
      have YM : Hid (Byt wa (.slice (some ⟨gi, 0, none⟩) 16 16) (msk M k)) := y1
      have YS : Hid (Byt wa (.slice ao s.length ca) s) := S1.out.below HB.out
      have KA : Hid (KeyA wa kd dk) := K1.out.below HB.out (by have := K1.out.lt; omega)
      have q2 : IntKind.i64.wrap (16 * (k : Int)) = 16 * (k : Int) := by rw [IntKind.wrap_i64]; omega
      have q3 : IntKind.i64.wrap (16 * (k : Int) + 16) = 16 * (k : Int) + 16 := by rw [IntKind.wrap_i64]; omega
      have HUk : Hid (∀ w' bv mv, KeyA w' kd dk → Byt w' bv (cut16 s k) → Byt w' mv (msk M k) → Calls Try.prog 39 #[bv, mv, .func (.func 25) #[.pointer (some ⟨kd, 0, none⟩)] #[]] w' fun e w'' => ∃ v', e = .returned (.tuple #[v', .int .i64 0]) ∧ Byt w'' v' (X k) ∧ Below w'.heap.size w' w'') := HU.out k hlt
      have XL : Hid ((X k).length = 16) := HXL.out k hlt
      have RL : Hid ((R k).length = 16 * k) := (HRL.out k hk).1
      clear y1
      go_wp2_with (first
        | (at_builtin; have q5 := s5; refine pushs_lawG _ rfl (.tmp 59) (.tmp 60) rfl w1.heap.size (by have := HB5.out.size; omega) _ v5 (R k) (X k) rfl rfl HO5.out Y5.out (by rw [RL.out]; omega) (by rw [XL.out]; omega) ?_; intro v6 w6 O6 B6; have HO6 : Hid (Own w1.heap.size w6 v6 (R (k + 1))) := (by show Own _ _ _ _; rw [HRS.out]; exact O6); have HB6 : Hid (Below w1.heap.size w1 w6) := HB5.out.trans B6; clear O6 B6)
        | (go_at_call 39; refine (HUk.out _ _ _ KA.out YC.out YM.out).mono ?_; rintro e w5 ⟨v5, rfl, y5, B5⟩; have s5 := B5.size; have Y5 : Hid (Byt w5 v5 (X k)) := y5; have HO5 : Hid (Own w1.heap.size w5 u12 (R k)) := Own.below HO.out B5; have HB5 : Hid (Below w1.heap.size w1 w5) := HB.out.trans (B5.mono (HB.out.size)); clear y5 B5)
        | (refine cut_part _ rfl (.tmp 46) (.tmp 47) (.tmp 49) rfl _ s (16 * (k : Int)) (16 * (k : Int) + 16) (16 * k) (16 * k + 16) rfl rfl rfl (by omega) (by omega) (by omega) (by rw [HSL.out]; omega) YS.out ?_; intro vc yc; have YC : Hid (Byt wa vc (cut16 s k)) := yc; clear yc))
      go_roundw
      case rel => exact ⟨k + 1, by omega, by go_num, HO6.out, HB6.out⟩
      case measure => simp [intOf]; omega
    · have hkn : k = N := by omega
      subst hkn
      go_wp2
      go_ret2
      exact ⟨_, rfl, HO.out.byt (HRL.out k (Nat.le_refl _)).2, HB1.out.trans (HB.out.mono z1)⟩
end Go.Proofs.Ytijadglmbopboaa.xt

/- What xts' Encrypt and Decrypt answer. No claim of its own. -/
namespace Go.Proofs.Ytijadglmbopboaa.xt
open Go.RowKit

theorem make_fn : ∀ (fn : Fn) (first cap : Array Value) (w : World), (Instr.makeFunc fn first cap).run Try.prog w = .ok (.func fn first cap) w := fun _ _ _ _ => rfl

set_option maxHeartbeats 1000000 in
theorem turned_sec (p av sv F : Value) (w : World) (hi : Calls Try.prog 38 #[sv] w fun e w' => e = .returned (.bool false) ∧ w' = w) :
    Calls Try.prog 21 #[p, av, sv, F] w fun e w' => e = .returned (.tuple #[.slice none 0 0, .int .i64 2]) ∧ w' = w := by
  have HI : Hid (Calls Try.prog 38 #[sv] w fun e w' => e = .returned (.bool false) ∧ w' = w) := hi
  clear hi
  go_enter Try.func21, Try.ntmps21
  go_wp2_with (go_at_call 38; refine (HI.out).mono ?_; rintro e wx ⟨rfl, hw⟩; obtain rfl := hw.symm)
  go_ret2
  exact ⟨rfl, rfl⟩

set_option maxHeartbeats 1000000 in
theorem turned_msk (p av sv F : Value) (s : List Int) (N : Nat) (w : World) (hs : Byt w sv s) (hsl : s.length = 16 * N) (hN : 1 ≤ N) (hN' : N ≤ 256) (hm : Calls Try.prog 17 #[p, av, .int .i64 (N : Int)] w fun e w' => e = .returned (.tuple #[.slice none 0 0, .int .i64 2]) ∧ w' = w) :
    Calls Try.prog 21 #[p, av, sv, F] w fun e w' => e = .returned (.tuple #[.slice none 0 0, .int .i64 2]) ∧ w' = w := by
  have HM : Hid (Calls Try.prog 17 #[p, av, .int .i64 (N : Int)] w fun e w' => e = .returned (.tuple #[.slice none 0 0, .int .i64 2]) ∧ w' = w) := hm
  have HI : Hid (Calls Try.prog 38 #[sv] w fun e w' => e = .returned (.bool true) ∧ w' = w) := sector_any w sv s hs true (by simp; omega)
  obtain ⟨ao, ca, rfl, ha1, ha2, -, -, -⟩ := hs
  have d1 : (s.length : Int).tdiv 16 = (N : Int) := by rw [Int.tdiv_eq_ediv_of_nonneg (by omega)]; omega
  have d2 : IntKind.i64.wrap (N : Int) = N := by rw [IntKind.wrap_i64]; omega
  clear hm hsl
  go_enter Try.func21, Try.ntmps21
  go_wp2_with (first
    | (go_at_call 17; refine (HM.out).mono ?_; rintro e wx ⟨rfl, hw⟩; obtain rfl := hw.symm)
    | (go_at_call 38; refine (HI.out).mono ?_; rintro e wx ⟨rfl, hw⟩; obtain rfl := hw.symm))
  go_ret2
  exact ⟨rfl, rfl⟩

set_option maxHeartbeats 1000000 in
theorem xenc_any (c : Nat) (av sv : Value) (dk tk ab s : List Int) (N : Nat) (w : World) (hc : Cip w c dk tk) (hdl : dk.length = 32) (hda : AllB dk) (htl : tk.length = 32) (hta : AllB tk) (ha : Byt w av ab) (hal : ab.length = 16) (hs : Byt w sv s) (hsl : s.length = 16 * N) (hN : 1 ≤ N) (hN' : N ≤ 256) :
    Calls Try.prog 10 #[.pointer (some ⟨c, 0, none⟩), av, sv] w fun e w' => ∃ v', e = .returned (.tuple #[v', .int .i64 0]) ∧ Byt w' v' (run (xe dk) (nm16 (encr tk ab)) s N) ∧ Below w.heap.size w w' := by
  obtain ⟨kd, kt, c0, c1, k0, k1⟩ := hc
  have HT : Hid (Calls Try.prog 21 #[.pointer (some ⟨c, 0, none⟩), av, sv, .func (.func 22) #[.pointer (some ⟨kd, 0, none⟩)] #[]] w fun e w' => ∃ v', e = .returned (.tuple #[v', .int .i64 0]) ∧ Byt w' v' (run (xe dk) (nm16 (encr tk ab)) s N) ∧ Below w.heap.size w w') := turned_enc c kd av sv dk tk ab s N w ⟨kd, kt, c0, c1, k0, k1⟩ k0 hdl hda htl hta ha hal hs hsl hN hN'
  generalize run (xe dk) (nm16 (encr tk ab)) s N = zs at *
  clear c1 k0 k1 hdl hda htl hta ha hal hs hsl hN hN'
  have hmf := make_fn
  go_enter Try.func10, Try.ntmps10
  go_wp2_with (go_at_call 21; refine (HT.out).mono ?_; rintro e w1 ⟨v1, rfl, y1, B1⟩)
  go_ret2
  exact ⟨_, rfl, y1, B1⟩

set_option maxHeartbeats 1000000 in
theorem xenc_nil (av sv : Value) (w : World) :
    Calls Try.prog 10 #[.pointer none, av, sv] w fun e w' => e = .returned (.tuple #[.slice none 0 0, .int .i64 2]) ∧ w' = w := by
  go_enter Try.func10, Try.ntmps10
  go_wp2
  go_ret2
  exact ⟨rfl, rfl⟩

set_option maxHeartbeats 1000000 in
theorem xenc_turned (c : Nat) (q : Option Addr) (av sv : Value) (w : World) (c0 : w.cell? ⟨c, 0, none⟩ = some (.pointer q)) (ht : ∀ F, Calls Try.prog 21 #[.pointer (some ⟨c, 0, none⟩), av, sv, F] w fun e w' => e = .returned (.tuple #[.slice none 0 0, .int .i64 2]) ∧ w' = w) :
    Calls Try.prog 10 #[.pointer (some ⟨c, 0, none⟩), av, sv] w fun e w' => e = .returned (.tuple #[.slice none 0 0, .int .i64 2]) ∧ w' = w := by
  have HT : Hid (∀ F, Calls Try.prog 21 #[.pointer (some ⟨c, 0, none⟩), av, sv, F] w fun e w' => e = .returned (.tuple #[.slice none 0 0, .int .i64 2]) ∧ w' = w) := ht
  clear ht
  have hmf := make_fn
  go_enter Try.func10, Try.ntmps10
  go_wp2_with (go_at_call 21; refine (HT.out _).mono ?_; rintro e wx ⟨rfl, hw⟩; obtain rfl := hw.symm)
  go_ret2
  exact ⟨rfl, rfl⟩

/-- of a cipher that New made: the tweak is not sixteen bytes, or the bytes are no sector -/
theorem xenc_no (c : Nat) (av sv : Value) (dk tk ab s : List Int) (w : World) (hc : Cip w c dk tk) (ha : Byt w av ab) (hs : Byt w sv s) (hn : ¬ (ab.length = 16 ∧ 16 ≤ s.length ∧ s.length ≤ 4096 ∧ s.length % 16 = 0)) :
    Calls Try.prog 10 #[.pointer (some ⟨c, 0, none⟩), av, sv] w fun e w' => e = .returned (.tuple #[.slice none 0 0, .int .i64 2]) ∧ w' = w := by
  obtain ⟨kd, kt, c0, c1, k0, k1⟩ := hc
  refine xenc_turned c _ av sv w c0 fun F => ?_
  by_cases h : 16 ≤ s.length ∧ s.length ≤ 4096 ∧ s.length % 16 = 0
  · have hal : ¬ ab.length = 16 := fun e => hn ⟨e, h⟩
    exact turned_msk _ av sv F s (s.length / 16) w hs (by omega) (by omega) (by omega) (masks_len c av dk tk ab _ w ⟨kd, kt, c0, c1, k0, k1⟩ ha hal)
  · exact turned_sec _ av sv F w (sector_any w sv s hs false (by simp; omega))

/-- of a cipher that New did not make -/
theorem xenc_raw (c : Nat) (av sv : Value) (s : List Int) (w : World) (c0 : w.cell? ⟨c, 0, none⟩ = some (.pointer none)) (c1 : w.cell? ⟨c, 1, none⟩ = some (.pointer none)) (hs : Byt w sv s) :
    Calls Try.prog 10 #[.pointer (some ⟨c, 0, none⟩), av, sv] w fun e w' => e = .returned (.tuple #[.slice none 0 0, .int .i64 2]) ∧ w' = w := by
  refine xenc_turned c _ av sv w c0 fun F => ?_
  by_cases h : 16 ≤ s.length ∧ s.length ≤ 4096 ∧ s.length % 16 = 0
  · exact turned_msk _ av sv F s (s.length / 16) w hs (by omega) (by omega) (by omega) (masks_raw c _ av _ w c1 ⟨_, rfl⟩ (takes_nil av w))
  · exact turned_sec _ av sv F w (sector_any w sv s hs false (by simp; omega))

set_option maxHeartbeats 1000000 in
theorem xdec_any (c : Nat) (av sv : Value) (dk tk ab s : List Int) (N : Nat) (w : World) (hc : Cip w c dk tk) (hdl : dk.length = 32) (hda : AllB dk) (htl : tk.length = 32) (hta : AllB tk) (ha : Byt w av ab) (hal : ab.length = 16) (hs : Byt w sv s) (hsl : s.length = 16 * N) (hN : 1 ≤ N) (hN' : N ≤ 256) :
    Calls Try.prog 15 #[.pointer (some ⟨c, 0, none⟩), av, sv] w fun e w' => ∃ v', e = .returned (.tuple #[v', .int .i64 0]) ∧ Byt w' v' (run (xd dk) (nm16 (encr tk ab)) s N) ∧ Below w.heap.size w w' := by
  obtain ⟨kd, kt, c0, c1, k0, k1⟩ := hc
  have HT : Hid (Calls Try.prog 21 #[.pointer (some ⟨c, 0, none⟩), av, sv, .func (.func 25) #[.pointer (some ⟨kd, 0, none⟩)] #[]] w fun e w' => ∃ v', e = .returned (.tuple #[v', .int .i64 0]) ∧ Byt w' v' (run (xd dk) (nm16 (encr tk ab)) s N) ∧ Below w.heap.size w w') := turned_dec c kd av sv dk tk ab s N w ⟨kd, kt, c0, c1, k0, k1⟩ k0 hdl hda htl hta ha hal hs hsl hN hN'
  generalize run (xd dk) (nm16 (encr tk ab)) s N = zs at *
  clear c1 k0 k1 hdl hda htl hta ha hal hs hsl hN hN'
  have hmf := make_fn
  go_enter Try.func15, Try.ntmps15
  go_wp2_with (go_at_call 21; refine (HT.out).mono ?_; rintro e w1 ⟨v1, rfl, y1, B1⟩)
  go_ret2
  exact ⟨_, rfl, y1, B1⟩

set_option maxHeartbeats 1000000 in
theorem xdec_nil (av sv : Value) (w : World) :
    Calls Try.prog 15 #[.pointer none, av, sv] w fun e w' => e = .returned (.tuple #[.slice none 0 0, .int .i64 2]) ∧ w' = w := by
  go_enter Try.func15, Try.ntmps15
  go_wp2
  go_ret2
  exact ⟨rfl, rfl⟩

set_option maxHeartbeats 1000000 in
theorem xdec_turned (c : Nat) (q : Option Addr) (av sv : Value) (w : World) (c0 : w.cell? ⟨c, 0, none⟩ = some (.pointer q)) (ht : ∀ F, Calls Try.prog 21 #[.pointer (some ⟨c, 0, none⟩), av, sv, F] w fun e w' => e = .returned (.tuple #[.slice none 0 0, .int .i64 2]) ∧ w' = w) :
    Calls Try.prog 15 #[.pointer (some ⟨c, 0, none⟩), av, sv] w fun e w' => e = .returned (.tuple #[.slice none 0 0, .int .i64 2]) ∧ w' = w := by
  have HT : Hid (∀ F, Calls Try.prog 21 #[.pointer (some ⟨c, 0, none⟩), av, sv, F] w fun e w' => e = .returned (.tuple #[.slice none 0 0, .int .i64 2]) ∧ w' = w) := ht
  clear ht
  have hmf := make_fn
  go_enter Try.func15, Try.ntmps15
  go_wp2_with (go_at_call 21; refine (HT.out _).mono ?_; rintro e wx ⟨rfl, hw⟩; obtain rfl := hw.symm)
  go_ret2
  exact ⟨rfl, rfl⟩

/-- of a cipher that New made: the tweak is not sixteen bytes, or the bytes are no sector -/
theorem xdec_no (c : Nat) (av sv : Value) (dk tk ab s : List Int) (w : World) (hc : Cip w c dk tk) (ha : Byt w av ab) (hs : Byt w sv s) (hn : ¬ (ab.length = 16 ∧ 16 ≤ s.length ∧ s.length ≤ 4096 ∧ s.length % 16 = 0)) :
    Calls Try.prog 15 #[.pointer (some ⟨c, 0, none⟩), av, sv] w fun e w' => e = .returned (.tuple #[.slice none 0 0, .int .i64 2]) ∧ w' = w := by
  obtain ⟨kd, kt, c0, c1, k0, k1⟩ := hc
  refine xdec_turned c _ av sv w c0 fun F => ?_
  by_cases h : 16 ≤ s.length ∧ s.length ≤ 4096 ∧ s.length % 16 = 0
  · have hal : ¬ ab.length = 16 := fun e => hn ⟨e, h⟩
    exact turned_msk _ av sv F s (s.length / 16) w hs (by omega) (by omega) (by omega) (masks_len c av dk tk ab _ w ⟨kd, kt, c0, c1, k0, k1⟩ ha hal)
  · exact turned_sec _ av sv F w (sector_any w sv s hs false (by simp; omega))

/-- of a cipher that New did not make -/
theorem xdec_raw (c : Nat) (av sv : Value) (s : List Int) (w : World) (c0 : w.cell? ⟨c, 0, none⟩ = some (.pointer none)) (c1 : w.cell? ⟨c, 1, none⟩ = some (.pointer none)) (hs : Byt w sv s) :
    Calls Try.prog 15 #[.pointer (some ⟨c, 0, none⟩), av, sv] w fun e w' => e = .returned (.tuple #[.slice none 0 0, .int .i64 2]) ∧ w' = w := by
  refine xdec_turned c _ av sv w c0 fun F => ?_
  by_cases h : 16 ≤ s.length ∧ s.length ≤ 4096 ∧ s.length % 16 = 0
  · exact turned_msk _ av sv F s (s.length / 16) w hs (by omega) (by omega) (by omega) (masks_raw c _ av _ w c1 ⟨_, rfl⟩ (takes_nil av w))
  · exact turned_sec _ av sv F w (sector_any w sv s hs false (by simp; omega))
end Go.Proofs.Ytijadglmbopboaa.xt

/- The words of the key of noughts, and a block of noughts encrypted under it, round by round. No claim of its own. -/
namespace Go.Proofs.Ytijadglmbopboaa
open Go.RowKit

def z32 : List Int := List.replicate 32 0
def y16 : List Int := List.replicate 16 0
theorem wd_hi (i : Nat) (h : ¬ i < 8) : wd z32 i = xorl (wd z32 (i - 8)) (mid i (wd z32 (i - 1))) := by rw [wd_eq, if_neg h]
theorem wz0 : wd z32 0 = [0, 0, 0, 0] := by decide +kernel
theorem wz1 : wd z32 1 = [0, 0, 0, 0] := by decide +kernel
theorem wz2 : wd z32 2 = [0, 0, 0, 0] := by decide +kernel
theorem wz3 : wd z32 3 = [0, 0, 0, 0] := by decide +kernel
theorem wz4 : wd z32 4 = [0, 0, 0, 0] := by decide +kernel
theorem wz5 : wd z32 5 = [0, 0, 0, 0] := by decide +kernel
theorem wz6 : wd z32 6 = [0, 0, 0, 0] := by decide +kernel
theorem wz7 : wd z32 7 = [0, 0, 0, 0] := by decide +kernel
theorem wz8 : wd z32 8 = [98, 99, 99, 99] := by
  refine (wd_hi 8 (by decide)).trans ?_
  show xorl (wd z32 0) (mid 8 (wd z32 7)) = _
  rw [wz0, wz7]; decide +kernel
theorem wz9 : wd z32 9 = [98, 99, 99, 99] := by
  refine (wd_hi 9 (by decide)).trans ?_
  show xorl (wd z32 1) (mid 9 (wd z32 8)) = _
  rw [wz1, wz8]; decide +kernel
theorem wz10 : wd z32 10 = [98, 99, 99, 99] := by
  refine (wd_hi 10 (by decide)).trans ?_
  show xorl (wd z32 2) (mid 10 (wd z32 9)) = _
  rw [wz2, wz9]; decide +kernel
theorem wz11 : wd z32 11 = [98, 99, 99, 99] := by
  refine (wd_hi 11 (by decide)).trans ?_
  show xorl (wd z32 3) (mid 11 (wd z32 10)) = _
  rw [wz3, wz10]; decide +kernel
theorem wz12 : wd z32 12 = [170, 251, 251, 251] := by
  refine (wd_hi 12 (by decide)).trans ?_
  show xorl (wd z32 4) (mid 12 (wd z32 11)) = _
  rw [wz4, wz11]; decide +kernel
theorem wz13 : wd z32 13 = [170, 251, 251, 251] := by
  refine (wd_hi 13 (by decide)).trans ?_
  show xorl (wd z32 5) (mid 13 (wd z32 12)) = _
  rw [wz5, wz12]; decide +kernel
theorem wz14 : wd z32 14 = [170, 251, 251, 251] := by
  refine (wd_hi 14 (by decide)).trans ?_
  show xorl (wd z32 6) (mid 14 (wd z32 13)) = _
  rw [wz6, wz13]; decide +kernel
theorem wz15 : wd z32 15 = [170, 251, 251, 251] := by
  refine (wd_hi 15 (by decide)).trans ?_
  show xorl (wd z32 7) (mid 15 (wd z32 14)) = _
  rw [wz7, wz14]; decide +kernel
theorem wz16 : wd z32 16 = [111, 108, 108, 207] := by
  refine (wd_hi 16 (by decide)).trans ?_
  show xorl (wd z32 8) (mid 16 (wd z32 15)) = _
  rw [wz8, wz15]; decide +kernel
theorem wz17 : wd z32 17 = [13, 15, 15, 172] := by
  refine (wd_hi 17 (by decide)).trans ?_
  show xorl (wd z32 9) (mid 17 (wd z32 16)) = _
  rw [wz9, wz16]; decide +kernel
theorem wz18 : wd z32 18 = [111, 108, 108, 207] := by
  refine (wd_hi 18 (by decide)).trans ?_
  show xorl (wd z32 10) (mid 18 (wd z32 17)) = _
  rw [wz10, wz17]; decide +kernel
theorem wz19 : wd z32 19 = [13, 15, 15, 172] := by
  refine (wd_hi 19 (by decide)).trans ?_
  show xorl (wd z32 11) (mid 19 (wd z32 18)) = _
  rw [wz11, wz18]; decide +kernel
theorem wz20 : wd z32 20 = [125, 141, 141, 106] := by
  refine (wd_hi 20 (by decide)).trans ?_
  show xorl (wd z32 12) (mid 20 (wd z32 19)) = _
  rw [wz12, wz19]; decide +kernel
theorem wz21 : wd z32 21 = [215, 118, 118, 145] := by
  refine (wd_hi 21 (by decide)).trans ?_
  show xorl (wd z32 13) (mid 21 (wd z32 20)) = _
  rw [wz13, wz20]; decide +kernel
theorem wz22 : wd z32 22 = [125, 141, 141, 106] := by
  refine (wd_hi 22 (by decide)).trans ?_
  show xorl (wd z32 14) (mid 22 (wd z32 21)) = _
  rw [wz14, wz21]; decide +kernel
theorem wz23 : wd z32 23 = [215, 118, 118, 145] := by
  refine (wd_hi 23 (by decide)).trans ?_
  show xorl (wd z32 15) (mid 23 (wd z32 22)) = _
  rw [wz15, wz22]; decide +kernel
theorem wz24 : wd z32 24 = [83, 84, 237, 193] := by
  refine (wd_hi 24 (by decide)).trans ?_
  show xorl (wd z32 16) (mid 24 (wd z32 23)) = _
  rw [wz16, wz23]; decide +kernel
theorem wz25 : wd z32 25 = [94, 91, 226, 109] := by
  refine (wd_hi 25 (by decide)).trans ?_
  show xorl (wd z32 17) (mid 25 (wd z32 24)) = _
  rw [wz17, wz24]; decide +kernel
theorem wz26 : wd z32 26 = [49, 55, 142, 162] := by
  refine (wd_hi 26 (by decide)).trans ?_
  show xorl (wd z32 18) (mid 26 (wd z32 25)) = _
  rw [wz18, wz25]; decide +kernel
theorem wz27 : wd z32 27 = [60, 56, 129, 14] := by
  refine (wd_hi 27 (by decide)).trans ?_
  show xorl (wd z32 19) (mid 27 (wd z32 26)) = _
  rw [wz19, wz26]; decide +kernel
theorem wz28 : wd z32 28 = [150, 138, 129, 193] := by
  refine (wd_hi 28 (by decide)).trans ?_
  show xorl (wd z32 20) (mid 28 (wd z32 27)) = _
  rw [wz20, wz27]; decide +kernel
theorem wz29 : wd z32 29 = [65, 252, 247, 80] := by
  refine (wd_hi 29 (by decide)).trans ?_
  show xorl (wd z32 21) (mid 29 (wd z32 28)) = _
  rw [wz21, wz28]; decide +kernel
theorem wz30 : wd z32 30 = [60, 113, 122, 58] := by
  refine (wd_hi 30 (by decide)).trans ?_
  show xorl (wd z32 22) (mid 30 (wd z32 29)) = _
  rw [wz22, wz29]; decide +kernel
theorem wz31 : wd z32 31 = [235, 7, 12, 171] := by
  refine (wd_hi 31 (by decide)).trans ?_
  show xorl (wd z32 23) (mid 31 (wd z32 30)) = _
  rw [wz23, wz30]; decide +kernel
theorem wz32 : wd z32 32 = [158, 170, 143, 40] := by
  refine (wd_hi 32 (by decide)).trans ?_
  show xorl (wd z32 24) (mid 32 (wd z32 31)) = _
  rw [wz24, wz31]; decide +kernel
theorem wz33 : wd z32 33 = [192, 241, 109, 69] := by
  refine (wd_hi 33 (by decide)).trans ?_
  show xorl (wd z32 25) (mid 33 (wd z32 32)) = _
  rw [wz25, wz32]; decide +kernel
theorem wz34 : wd z32 34 = [241, 198, 227, 231] := by
  refine (wd_hi 34 (by decide)).trans ?_
  show xorl (wd z32 26) (mid 34 (wd z32 33)) = _
  rw [wz26, wz33]; decide +kernel
theorem wz35 : wd z32 35 = [205, 254, 98, 233] := by
  refine (wd_hi 35 (by decide)).trans ?_
  show xorl (wd z32 27) (mid 35 (wd z32 34)) = _
  rw [wz27, wz34]; decide +kernel
theorem wz36 : wd z32 36 = [43, 49, 43, 223] := by
  refine (wd_hi 36 (by decide)).trans ?_
  show xorl (wd z32 28) (mid 36 (wd z32 35)) = _
  rw [wz28, wz35]; decide +kernel
theorem wz37 : wd z32 37 = [106, 205, 220, 143] := by
  refine (wd_hi 37 (by decide)).trans ?_
  show xorl (wd z32 29) (mid 37 (wd z32 36)) = _
  rw [wz29, wz36]; decide +kernel
theorem wz38 : wd z32 38 = [86, 188, 166, 181] := by
  refine (wd_hi 38 (by decide)).trans ?_
  show xorl (wd z32 30) (mid 38 (wd z32 37)) = _
  rw [wz30, wz37]; decide +kernel
theorem wz39 : wd z32 39 = [189, 187, 170, 30] := by
  refine (wd_hi 39 (by decide)).trans ?_
  show xorl (wd z32 31) (mid 39 (wd z32 38)) = _
  rw [wz31, wz38]; decide +kernel
theorem wz40 : wd z32 40 = [100, 6, 253, 82] := by
  refine (wd_hi 40 (by decide)).trans ?_
  show xorl (wd z32 32) (mid 40 (wd z32 39)) = _
  rw [wz32, wz39]; decide +kernel
theorem wz41 : wd z32 41 = [164, 247, 144, 23] := by
  refine (wd_hi 41 (by decide)).trans ?_
  show xorl (wd z32 33) (mid 41 (wd z32 40)) = _
  rw [wz33, wz40]; decide +kernel
theorem wz42 : wd z32 42 = [85, 49, 115, 240] := by
  refine (wd_hi 42 (by decide)).trans ?_
  show xorl (wd z32 34) (mid 42 (wd z32 41)) = _
  rw [wz34, wz41]; decide +kernel
theorem wz43 : wd z32 43 = [152, 207, 17, 25] := by
  refine (wd_hi 43 (by decide)).trans ?_
  show xorl (wd z32 35) (mid 43 (wd z32 42)) = _
  rw [wz35, wz42]; decide +kernel
theorem wz44 : wd z32 44 = [109, 187, 169, 11] := by
  refine (wd_hi 44 (by decide)).trans ?_
  show xorl (wd z32 36) (mid 44 (wd z32 43)) = _
  rw [wz36, wz43]; decide +kernel
theorem wz45 : wd z32 45 = [7, 118, 117, 132] := by
  refine (wd_hi 45 (by decide)).trans ?_
  show xorl (wd z32 37) (mid 45 (wd z32 44)) = _
  rw [wz37, wz44]; decide +kernel
theorem wz46 : wd z32 46 = [81, 202, 211, 49] := by
  refine (wd_hi 46 (by decide)).trans ?_
  show xorl (wd z32 38) (mid 46 (wd z32 45)) = _
  rw [wz38, wz45]; decide +kernel
theorem wz47 : wd z32 47 = [236, 113, 121, 47] := by
  refine (wd_hi 47 (by decide)).trans ?_
  show xorl (wd z32 39) (mid 47 (wd z32 46)) = _
  rw [wz39, wz46]; decide +kernel
theorem wz48 : wd z32 48 = [231, 176, 232, 156] := by
  refine (wd_hi 48 (by decide)).trans ?_
  show xorl (wd z32 40) (mid 48 (wd z32 47)) = _
  rw [wz40, wz47]; decide +kernel
theorem wz49 : wd z32 49 = [67, 71, 120, 139] := by
  refine (wd_hi 49 (by decide)).trans ?_
  show xorl (wd z32 41) (mid 49 (wd z32 48)) = _
  rw [wz41, wz48]; decide +kernel
theorem wz50 : wd z32 50 = [22, 118, 11, 123] := by
  refine (wd_hi 50 (by decide)).trans ?_
  show xorl (wd z32 42) (mid 50 (wd z32 49)) = _
  rw [wz42, wz49]; decide +kernel
theorem wz51 : wd z32 51 = [142, 185, 26, 98] := by
  refine (wd_hi 51 (by decide)).trans ?_
  show xorl (wd z32 43) (mid 51 (wd z32 50)) = _
  rw [wz43, wz50]; decide +kernel
theorem wz52 : wd z32 52 = [116, 237, 11, 161] := by
  refine (wd_hi 52 (by decide)).trans ?_
  show xorl (wd z32 44) (mid 52 (wd z32 51)) = _
  rw [wz44, wz51]; decide +kernel
theorem wz53 : wd z32 53 = [115, 155, 126, 37] := by
  refine (wd_hi 53 (by decide)).trans ?_
  show xorl (wd z32 45) (mid 53 (wd z32 52)) = _
  rw [wz45, wz52]; decide +kernel
theorem wz54 : wd z32 54 = [34, 81, 173, 20] := by
  refine (wd_hi 54 (by decide)).trans ?_
  show xorl (wd z32 46) (mid 54 (wd z32 53)) = _
  rw [wz46, wz53]; decide +kernel
theorem wz55 : wd z32 55 = [206, 32, 212, 59] := by
  refine (wd_hi 55 (by decide)).trans ?_
  show xorl (wd z32 47) (mid 55 (wd z32 54)) = _
  rw [wz47, wz54]; decide +kernel
theorem wz56 : wd z32 56 = [16, 248, 10, 23] := by
  refine (wd_hi 56 (by decide)).trans ?_
  show xorl (wd z32 48) (mid 56 (wd z32 55)) = _
  rw [wz48, wz55]; decide +kernel
theorem wz57 : wd z32 57 = [83, 191, 114, 156] := by
  refine (wd_hi 57 (by decide)).trans ?_
  show xorl (wd z32 49) (mid 57 (wd z32 56)) = _
  rw [wz49, wz56]; decide +kernel
theorem wz58 : wd z32 58 = [69, 201, 121, 231] := by
  refine (wd_hi 58 (by decide)).trans ?_
  show xorl (wd z32 50) (mid 58 (wd z32 57)) = _
  rw [wz50, wz57]; decide +kernel
theorem wz59 : wd z32 59 = [203, 112, 99, 133] := by
  refine (wd_hi 59 (by decide)).trans ?_
  show xorl (wd z32 51) (mid 59 (wd z32 58)) = _
  rw [wz51, wz58]; decide +kernel
theorem rz0 : rk z32 0 = [0, 0, 0, 0, 0, 0, 0, 0, 0, 0, 0, 0, 0, 0, 0, 0] := by
  show wd z32 0 ++ wd z32 1 ++ wd z32 2 ++ wd z32 3 = _
  rw [wz0, wz1, wz2, wz3]; rfl
theorem rz1 : rk z32 1 = [0, 0, 0, 0, 0, 0, 0, 0, 0, 0, 0, 0, 0, 0, 0, 0] := by
  show wd z32 4 ++ wd z32 5 ++ wd z32 6 ++ wd z32 7 = _
  rw [wz4, wz5, wz6, wz7]; rfl
theorem rz2 : rk z32 2 = [98, 99, 99, 99, 98, 99, 99, 99, 98, 99, 99, 99, 98, 99, 99, 99] := by
  show wd z32 8 ++ wd z32 9 ++ wd z32 10 ++ wd z32 11 = _
  rw [wz8, wz9, wz10, wz11]; rfl
theorem rz3 : rk z32 3 = [170, 251, 251, 251, 170, 251, 251, 251, 170, 251, 251, 251, 170, 251, 251, 251] := by
  show wd z32 12 ++ wd z32 13 ++ wd z32 14 ++ wd z32 15 = _
  rw [wz12, wz13, wz14, wz15]; rfl
theorem rz4 : rk z32 4 = [111, 108, 108, 207, 13, 15, 15, 172, 111, 108, 108, 207, 13, 15, 15, 172] := by
  show wd z32 16 ++ wd z32 17 ++ wd z32 18 ++ wd z32 19 = _
  rw [wz16, wz17, wz18, wz19]; rfl
theorem rz5 : rk z32 5 = [125, 141, 141, 106, 215, 118, 118, 145, 125, 141, 141, 106, 215, 118, 118, 145] := by
  show wd z32 20 ++ wd z32 21 ++ wd z32 22 ++ wd z32 23 = _
  rw [wz20, wz21, wz22, wz23]; rfl
theorem rz6 : rk z32 6 = [83, 84, 237, 193, 94, 91, 226, 109, 49, 55, 142, 162, 60, 56, 129, 14] := by
  show wd z32 24 ++ wd z32 25 ++ wd z32 26 ++ wd z32 27 = _
  rw [wz24, wz25, wz26, wz27]; rfl
theorem rz7 : rk z32 7 = [150, 138, 129, 193, 65, 252, 247, 80, 60, 113, 122, 58, 235, 7, 12, 171] := by
  show wd z32 28 ++ wd z32 29 ++ wd z32 30 ++ wd z32 31 = _
  rw [wz28, wz29, wz30, wz31]; rfl
theorem rz8 : rk z32 8 = [158, 170, 143, 40, 192, 241, 109, 69, 241, 198, 227, 231, 205, 254, 98, 233] := by
  show wd z32 32 ++ wd z32 33 ++ wd z32 34 ++ wd z32 35 = _
  rw [wz32, wz33, wz34, wz35]; rfl
theorem rz9 : rk z32 9 = [43, 49, 43, 223, 106, 205, 220, 143, 86, 188, 166, 181, 189, 187, 170, 30] := by
  show wd z32 36 ++ wd z32 37 ++ wd z32 38 ++ wd z32 39 = _
  rw [wz36, wz37, wz38, wz39]; rfl
theorem rz10 : rk z32 10 = [100, 6, 253, 82, 164, 247, 144, 23, 85, 49, 115, 240, 152, 207, 17, 25] := by
  show wd z32 40 ++ wd z32 41 ++ wd z32 42 ++ wd z32 43 = _
  rw [wz40, wz41, wz42, wz43]; rfl
theorem rz11 : rk z32 11 = [109, 187, 169, 11, 7, 118, 117, 132, 81, 202, 211, 49, 236, 113, 121, 47] := by
  show wd z32 44 ++ wd z32 45 ++ wd z32 46 ++ wd z32 47 = _
  rw [wz44, wz45, wz46, wz47]; rfl
theorem rz12 : rk z32 12 = [231, 176, 232, 156, 67, 71, 120, 139, 22, 118, 11, 123, 142, 185, 26, 98] := by
  show wd z32 48 ++ wd z32 49 ++ wd z32 50 ++ wd z32 51 = _
  rw [wz48, wz49, wz50, wz51]; rfl
theorem rz13 : rk z32 13 = [116, 237, 11, 161, 115, 155, 126, 37, 34, 81, 173, 20, 206, 32, 212, 59] := by
  show wd z32 52 ++ wd z32 53 ++ wd z32 54 ++ wd z32 55 = _
  rw [wz52, wz53, wz54, wz55]; rfl
theorem rz14 : rk z32 14 = [16, 248, 10, 23, 83, 191, 114, 156, 69, 201, 121, 231, 203, 112, 99, 133] := by
  show wd z32 56 ++ wd z32 57 ++ wd z32 58 ++ wd z32 59 = _
  rw [wz56, wz57, wz58, wz59]; rfl
theorem ez0 : enc z32 y16 0 = [0, 0, 0, 0, 0, 0, 0, 0, 0, 0, 0, 0, 0, 0, 0, 0] := by
  show xorl y16 (rk z32 0) = _
  rw [rz0]; decide +kernel
theorem ez1 : enc z32 y16 1 = [99, 99, 99, 99, 99, 99, 99, 99, 99, 99, 99, 99, 99, 99, 99, 99] := by
  show xorl (mx 1 (shl16 (looked ptab (enc z32 y16 0)) 1)) (rk z32 1) = _
  rw [ez0, rz1]; decide +kernel
theorem ez2 : enc z32 y16 2 = [153, 152, 152, 152, 153, 152, 152, 152, 153, 152, 152, 152, 153, 152, 152, 152] := by
  show xorl (mx 2 (shl16 (looked ptab (enc z32 y16 1)) 1)) (rk z32 2) = _
  rw [ez1, rz2]; decide +kernel
theorem ez3 : enc z32 y16 3 = [167, 21, 21, 94, 167, 21, 21, 94, 167, 21, 21, 94, 167, 21, 21, 94] := by
  show xorl (mx 3 (shl16 (looked ptab (enc z32 y16 2)) 1)) (rk z32 3) = _
  rw [ez2, rz3]; decide +kernel
theorem ez4 : enc z32 y16 4 = [61, 49, 51, 155, 95, 82, 80, 248, 61, 49, 51, 155, 95, 82, 80, 248] := by
  show xorl (mx 4 (shl16 (looked ptab (enc z32 y16 3)) 1)) (rk z32 4) = _
  rw [ez3, rz4]; decide +kernel
theorem ez5 : enc z32 y16 5 = [177, 181, 244, 66, 71, 205, 228, 103, 177, 181, 244, 66, 71, 205, 228, 103] := by
  show xorl (mx 5 (shl16 (looked ptab (enc z32 y16 4)) 1)) (rk z32 5) = _
  rw [ez4, rz5]; decide +kernel
theorem ez6 : enc z32 y16 6 = [62, 162, 105, 145, 36, 221, 49, 114, 92, 193, 10, 242, 70, 190, 82, 17] := by
  show xorl (mx 6 (shl16 (looked ptab (enc z32 y16 5)) 1)) (rk z32 6) = _
  rw [ez5, rz6]; decide +kernel
theorem ez7 : enc z32 y16 7 = [84, 138, 161, 181, 36, 187, 33, 107, 248, 44, 183, 51, 95, 242, 121, 177] := by
  show xorl (mx 7 (shl16 (looked ptab (enc z32 y16 6)) 1)) (rk z32 7) = _
  rw [ez6, rz7]; decide +kernel
theorem ez8 : enc z32 y16 8 = [154, 109, 79, 128, 92, 49, 57, 105, 190, 167, 206, 97, 244, 18, 108, 189] := by
  show xorl (mx 8 (shl16 (looked ptab (enc z32 y16 7)) 1)) (rk z32 8) = _
  rw [ez7, rz8]; decide +kernel
theorem ez9 : enc z32 y16 9 = [227, 224, 215, 180, 135, 2, 38, 220, 44, 245, 194, 248, 97, 165, 39, 47] := by
  show xorl (mx 9 (shl16 (looked ptab (enc z32 y16 8)) 1)) (rk z32 9) = _
  rw [ez8, rz9]; decide +kernel
theorem ez10 : enc z32 y16 10 = [239, 131, 238, 25, 250, 245, 110, 5, 53, 216, 137, 124, 211, 186, 41, 167] := by
  show xorl (mx 10 (shl16 (looked ptab (enc z32 y16 9)) 1)) (rk z32 10) = _
  rw [ez9, rz10]; decide +kernel
theorem ez11 : enc z32 y16 11 = [2, 29, 33, 136, 143, 185, 15, 132, 34, 188, 92, 154, 128, 126, 230, 214] := by
  show xorl (mx 11 (shl16 (looked ptab (enc z32 y16 10)) 1)) (rk z32 11) = _
  rw [ez10, rz11]; decide +kernel
theorem ez12 : enc z32 y16 12 = [79, 67, 92, 238, 64, 179, 62, 102, 135, 91, 107, 101, 54, 5, 76, 151] := by
  show xorl (mx 12 (shl16 (looked ptab (enc z32 y16 11)) 1)) (rk z32 12) = _
  rw [ez11, rz12]; decide +kernel
theorem ez13 : enc z32 y16 13 = [39, 186, 159, 47, 43, 179, 100, 126, 200, 125, 16, 106, 21, 145, 99, 6] := by
  show xorl (mx 13 (shl16 (looked ptab (enc z32 y16 12)) 1)) (rk z32 13) = _
  rw [ez12, rz13]; decide +kernel
theorem ez14 : enc z32 y16 14 = [220, 149, 192, 120, 162, 64, 137, 137, 173, 72, 162, 20, 146, 132, 32, 135] := by
  show xorl (mx 14 (shl16 (looked ptab (enc z32 y16 13)) 1)) (rk z32 14) = _
  rw [ez13, rz14]; decide +kernel
theorem zero_block : gb (encr z32 y16) 0 = 220 ∧ gb (encr z32 y16) 15 = 135 := by
  show gb (enc z32 y16 14) 0 = 220 ∧ gb (enc z32 y16 14) 15 = 135
  rw [ez14]; exact ⟨rfl, rfl⟩
end Go.Proofs.Ytijadglmbopboaa

/- A sector of noughts, encrypted under keys and a tweak of noughts: its first byte, round by round. No claim of its own. -/
namespace Go.Proofs.Ytijadglmbopboaa.xt
open Go.RowKit

def m16 : List Int := [220, 149, 192, 120, 162, 64, 137, 137, 173, 72, 162, 20, 146, 132, 32, 135]
theorem ez_m16 : encr z32 y16 = m16 := ez14
theorem xz0 : enc z32 m16 0 = [220, 149, 192, 120, 162, 64, 137, 137, 173, 72, 162, 20, 146, 132, 32, 135] := by
  show xorl m16 (rk z32 0) = _
  rw [rz0]; decide +kernel
theorem xz1 : enc z32 m16 1 = [33, 205, 194, 140, 137, 224, 194, 200, 205, 89, 87, 20, 189, 19, 37, 179] := by
  show xorl (mx 1 (shl16 (looked ptab (enc z32 m16 0)) 1)) (rk z32 1) = _
  rw [xz0, rz1]; decide +kernel
theorem xz2 : enc z32 m16 2 = [141, 199, 126, 31, 42, 108, 221, 173, 73, 163, 202, 44, 149, 237, 251, 154] := by
  show xorl (mx 2 (shl16 (looked ptab (enc z32 m16 1)) 1)) (rk z32 2) = _
  rw [xz1, rz2]; decide +kernel
theorem xz3 : enc z32 m16 3 = [44, 34, 205, 83, 170, 219, 81, 81, 69, 241, 204, 33, 31, 111, 29, 96] := by
  show xorl (mx 3 (shl16 (looked ptab (enc z32 m16 2)) 1)) (rk z32 3) = _
  rw [xz2, rz3]; decide +kernel
theorem xz4 : enc z32 m16 4 = [198, 121, 89, 21, 255, 224, 125, 135, 60, 68, 163, 209, 20, 103, 249, 84] := by
  show xorl (mx 4 (shl16 (looked ptab (enc z32 m16 3)) 1)) (rk z32 4) = _
  rw [xz3, rz4]; decide +kernel
theorem xz5 : enc z32 m16 5 = [28, 222, 172, 6, 22, 191, 185, 155, 248, 38, 87, 44, 56, 223, 157, 177] := by
  show xorl (mx 5 (shl16 (looked ptab (enc z32 m16 4)) 1)) (rk z32 5) = _
  rw [xz4, rz5]; decide +kernel
theorem xz6 : enc z32 m16 6 = [251, 253, 140, 166, 227, 100, 95, 211, 143, 237, 84, 70, 50, 142, 164, 174] := by
  show xorl (mx 6 (shl16 (looked ptab (enc z32 m16 5)) 1)) (rk z32 6) = _
  rw [xz5, rz6]; decide +kernel
theorem xz7 : enc z32 m16 7 = [137, 135, 186, 96, 241, 184, 77, 55, 243, 250, 114, 30, 196, 156, 16, 225] := by
  show xorl (mx 7 (shl16 (looked ptab (enc z32 m16 6)) 1)) (rk z32 7) = _
  rw [xz6, rz7]; decide +kernel
theorem xz8 : enc z32 m16 8 = [199, 237, 215, 29, 244, 159, 5, 225, 252, 241, 118, 245, 93, 128, 34, 221] := by
  show xorl (mx 8 (shl16 (looked ptab (enc z32 m16 7)) 1)) (rk z32 8) = _
  rw [xz7, rz8]; decide +kernel
theorem xz9 : enc z32 m16 9 = [51, 211, 30, 244, 192, 33, 8, 52, 151, 103, 212, 86, 87, 6, 84, 35] := by
  show xorl (mx 9 (shl16 (looked ptab (enc z32 m16 8)) 1)) (rk z32 9) = _
  rw [xz8, rz9]; decide +kernel
theorem xz10 : enc z32 m16 10 = [139, 218, 57, 245, 192, 131, 53, 2, 133, 233, 88, 94, 5, 185, 132, 219] := by
  show xorl (mx 10 (shl16 (looked ptab (enc z32 m16 9)) 1)) (rk z32 10) = _
  rw [xz9, rz10]; decide +kernel
theorem xz11 : enc z32 m16 11 = [235, 66, 124, 163, 243, 247, 94, 199, 251, 176, 175, 57, 13, 77, 154, 227] := by
  show xorl (mx 11 (shl16 (looked ptab (enc z32 m16 10)) 1)) (rk z32 11) = _
  rw [xz10, rz11]; decide +kernel
theorem xz12 : enc z32 m16 12 = [254, 19, 168, 143, 217, 70, 231, 215, 224, 82, 150, 14, 5, 204, 103, 80] := by
  show xorl (mx 12 (shl16 (looked ptab (enc z32 m16 11)) 1)) (rk z32 12) = _
  rw [xz11, rz12]; decide +kernel
theorem xz13 : enc z32 m16 13 = [52, 26, 36, 27, 239, 73, 207, 25, 234, 117, 138, 185, 160, 189, 23, 34] := by
  show xorl (mx 13 (shl16 (looked ptab (enc z32 m16 12)) 1)) (rk z32 13) = _
  rw [xz12, rz13]; decide +kernel
theorem xz14 : enc z32 m16 14 = [8, 195, 116, 132, 140, 34, 130, 51, 194, 179, 79, 51, 43, 210, 233, 211] := by
  show xorl (mx 14 (shl16 (looked ptab (enc z32 m16 13)) 1)) (rk z32 14) = _
  rw [xz13, rz14]; decide +kernel
theorem m16_blk : Blk m16 := ⟨by decide, allB_mem (by decide)⟩
theorem y16_m16 : xorl y16 m16 = m16 := by decide +kernel
theorem y32_cut : cut16 (List.replicate 32 0) 0 = y16 := by decide +kernel
theorem xe_first : gb (xe z32 m16 y16) 0 = 212 := by
  unfold xe
  rw [y16_m16, show encr z32 m16 = enc z32 m16 14 from rfl, xz14]
  decide +kernel
theorem gb_left (xs ys : List Int) (h : 0 < xs.length) : gb (xs ++ ys) 0 = gb xs 0 := by
  cases xs with
  | nil => simp at h
  | cons x xs => rfl
theorem xzero : gb (run (xe z32) (nm16 (encr z32 y16)) (List.replicate 32 0) 2) 0 = 212 := by
  rw [ez_m16]
  show gb (([] ++ xe z32 (msk (nm16 m16) 0) (cut16 (List.replicate 32 0) 0)) ++ xe z32 (msk (nm16 m16) 1) (cut16 (List.replicate 32 0) 1)) 0 = _
  have hl : (xe z32 m16 y16).length = 16 := (xe_blk z32 (by decide) (allB_mem (by decide)) m16 y16 m16_blk ⟨by decide, allB_mem (by decide)⟩).1
  rw [List.nil_append, msk_zero m16 m16_blk, y32_cut, gb_left _ _ (by omega), xe_first]
end Go.Proofs.Ytijadglmbopboaa.xt

/- What the reference's comparison of two lists of bytes answers: whether they are the same. No claim of its own. -/
namespace Go.Proofs.Ytijadglmbopboaa
open Go.RowKit

theorem not_same {xs ys : List Int} {k : Nat} (h : gb xs k ≠ gb ys k) : decide (xs = ys) = false := by
  simp only [decide_eq_false_iff_not]; intro e; exact h (by rw [e])

set_option maxHeartbeats 1000000 in
theorem same_any (w : World) (va vb : Value) (xs ys : List Int) (ha : Byt w va xs) (hb : Byt w vb ys) :
    Calls Try.prog 12 #[va, vb] w fun e w' => e = .returned (.bool (decide (xs = ys))) ∧ ∃ n, w' = w.drewN n := by
  obtain ⟨ao, ca, rfl, ha1, ha2, ha3, -, ha5⟩ := ha
  obtain ⟨bo, cb, rfl, hb1, hb2, hb3, -, hb5⟩ := hb
  by_cases hl : xs.length = ys.length
  · have HL : Hid (xs.length = ys.length) := hl
    have HB5 : Hid (0 < xs.length → ∃ b off, bo = some ⟨b, off, none⟩ ∧ ∀ t, t < xs.length → w.cell? ⟨b, off + t, none⟩ = some (.int .u8 (gb ys t))) := by
      rw [hl]; exact hb5
    have HA5 : Hid (0 < xs.length → ∃ b off, ao = some ⟨b, off, none⟩ ∧ ∀ t, t < xs.length → w.cell? ⟨b, off + t, none⟩ = some (.int .u8 (gb xs t))) := ha5
    clear hb5 ha5
    rw [← hl] at hb1 ⊢
    clear hl
    have hm : xs.length ≤ 9223372036854775807 := by omega
    go_enter Try.func12, Try.ntmps12
    go_wp2
    go_loopw [5] (fun i wr => ∃ k n : Nat, k ≤ xs.length ∧ i = .int .i64 k ∧ wr = w.drewN n ∧ Hid (∀ t, t < k → gb xs t = gb ys t)) (fun i _ => xs.length - (intOf i).toNat)
    case atStart => exact ⟨0, 0, Nat.zero_le _, rfl, rfl, fun t ht => by omega⟩
    case round =>
      obtain ⟨k, n, hk, rfl, rfl, heq⟩ := hrel
      by_cases hlt : k < xs.length
      · obtain ⟨b, off, rfl, hca⟩ := HA5.out (by omega)
        obtain ⟨b', off', rfl, hcb⟩ := HB5.out (by omega)
        have c1 : w.cell? ⟨b, off + k, none⟩ = some (.int .u8 (gb xs k)) := hca k hlt
        have c2 : w.cell? ⟨b', off' + k, none⟩ = some (.int .u8 (gb ys k)) := hcb k hlt
        have lk : (k : Int) < (xs.length : Int) := by omega
        clear hca hcb
        go_wp2
        go_quiet (fail)
        go_wp2
        · have hne : (gb xs k != gb ys k) = true := by assumption
          go_ret
          refine ⟨?_, n + nq, World.drewN_drewN ..⟩
          have : decide (xs = ys) = false := not_same (by simpa using hne)
          rw [this]; rfl
        · have hne : (gb xs k != gb ys k) = false := by assumption
          go_roundw
          case rel => exact ⟨k + 1, n + nq, by omega, by go_num, rfl, fun t ht => if h : t < k then heq.out t h else by
            have : t = k := by omega
            subst this; simpa using hne⟩
          case measure => simp [intOf]; omega
      · go_wp2
        go_ret
        refine ⟨?_, n, rfl⟩
        have : decide (xs = ys) = true := decide_eq_true (ext_gb HL.out fun t ht => heq.out t (by omega))
        rw [this]; rfl
  · have : decide (xs = ys) = false := by simp only [decide_eq_false_iff_not]; intro e; exact hl (by rw [e])
    rw [this]
    go_enter Try.func12, Try.ntmps12
    go_wp2
    go_ret
    exact ⟨rfl, 0, rfl⟩
end Go.Proofs.Ytijadglmbopboaa

/- That xts answers at all; laws of one operation in a region that draws its order. No claim of its own. -/
namespace Go.Proofs.Ytijadglmbopboaa.xt
open Go.RowKit

/-- 'make([]byte, n)' in a region that draws its order -/
theorem step_make {ops : Array Oper} {o : Oper} {a : Act} {Q : Exit → Act → World → Prop} {K : Act → World → Prop} {E : Prop} (w : World) (hg : o.guard = none) (d : Option Tmp) (hd : o.dst = d) (l c : Operand) (hop : o.op = Op.makeSlice 22 l c) (B : Nat) (hB : B ≤ w.heap.size)
    (L : Int) (n : Nat) (hl : a.eval l = .int .i64 L) (hc : a.eval c = .int .i64 L) (hL : L = (n : Int)) (hn : n ≤ 1099511627776)
    (hK : ∀ w', OwnN B w' w.heap.size n (List.replicate n 0) → Below B w w' → w.heap.size < w'.heap.size → K (a.put d (.slice (some ⟨w.heap.size, 0, none⟩) n n)) w') :
    if Region.wanted o (yielded ops a.tmps) = true then Oper.wp Try.prog o a w K Q else E := by
  have hw : Region.wanted o (yielded ops a.tmps) = true := by simp [Region.wanted, hg]
  rw [if_pos hw]
  subst hd
  obtain ⟨i0, hi, hz0, hz1, hz2⟩ := info_parts info_u8
  obtain ⟨w', hrun, h1, h2⟩ := run_make_full (P := Try.prog) w B 22 5 i0 (.int .u8 0) 1 Try.underlying22 hi hz0 hz1 .i64 .i64 n (by rw [hz2]; omega) (by simp only [maxLen]; omega) hB
  subst hL
  have hlt : w.heap.size < w'.heap.size := (h1.lt w.heap.size rfl).2
  unfold Oper.wp
  simp [execOp, hop, hl, hc, hrun, Result.andThen]
  refine hK w' ⟨by simp, hB, ?_⟩ ((Below.refl B w).grown h2 hB (fun k hk => by cases hk)) hlt
  have e : (madeCells (Value.int .u8 0).cells (n * 1)).toList = (List.replicate n (0 : Int)).map (Value.int .u8) := by
    rw [Nat.mul_one]
    show (madeCells #[Value.int .u8 0] n).toList = _
    rw [toList_madeCells_one]; simp
  rw [e] at h1
  exact h1
/-- a call, guarded or not -/
theorem step_callW {ops : Array Oper} {o : Oper} {a : Act} {Q : Exit → Act → World → Prop} {K : Act → World → Prop} {E : Prop} (w : World) (hw : Region.wanted o (yielded ops a.tmps) = true) (d : Option Tmp) (hd : o.dst = d) (f : FuncId) (args : Array Operand) (ats : Array TypeId) (hop : o.op = .call { callee := .value (.func f), args := args, argTypes := ats })
    (hcf : ∀ (q : Array Value) (w : World), (callFunc f q).run Try.prog w = .ok (.enter f q) w) (vs : Array Value) (hx : args.map a.eval = vs) (R : Value → World → Prop) (hc : Calls Try.prog f vs w fun e w' => ∃ v, e = .returned v ∧ R v w') (hK : ∀ v w', R v w' → K (a.put d v) w') : if Region.wanted o (yielded ops a.tmps) = true then Oper.wp Try.prog o a w K Q else E := by
  rw [if_pos hw]
  subst hd
  subst hx
  unfold Oper.wp
  simp only [execOp, hop]
  go_simp
  refine hc.mono ?_
  rintro e w' ⟨v, rfl, hr⟩
  exact hK v w' hr

/-- a row of noughts -/
theorem OwnN.zero {B : Nat} {w : World} {g n : Nat} {xs : List Int} (h : OwnN B w g n (List.replicate n 0)) (hx : xs = List.replicate n 0) : Byt w (.slice (some ⟨g, 0, none⟩) n n) xs := by
  rw [hx]; exact h.byt (repl_all n)

set_option maxRecDepth 20000 in
set_option maxHeartbeats 4000000 in
theorem awake_any (w : World) : Calls Try.prog 8 #[] w fun e w' => e = .returned (.bool true) ∧ Below w.heap.size w w' := by
  have HN : Hid (∀ v w0, Byt w0 v z32 → Calls Try.prog 9 #[v, v] w0 fun e w' => ∃ c, e = .returned (.tuple #[.pointer (some ⟨c, 0, none⟩), .int .i64 0]) ∧ Cip w' c z32 z32 ∧ w0.heap.size ≤ c ∧ Below w0.heap.size w0 w') := fun v w0 h => xnew_any v v z32 z32 w0 h h List.length_replicate List.length_replicate
  have HE : Hid (∀ av sv c w0, Cip w0 c z32 z32 → Byt w0 av y16 → Byt w0 sv (List.replicate 32 0) → Calls Try.prog 10 #[.pointer (some ⟨c, 0, none⟩), av, sv] w0 fun e w' => ∃ v, e = .returned v ∧ ∃ b off cap, v = .tuple #[.slice (some ⟨b, off, none⟩) 32 cap, .int .i64 0] ∧ w'.cell? ⟨b, off, none⟩ = some (.int .u8 212) ∧ 32 ≤ cap ∧ Below w0.heap.size w0 w') := fun av sv c w0 h1 h2 h3 => by
    refine (xenc_any c av sv z32 z32 y16 (List.replicate 32 0) 2 w0 h1 List.length_replicate (repl_all 32) List.length_replicate (repl_all 32) h2 List.length_replicate h3 List.length_replicate (by omega) (by omega)).mono ?_
    rintro e w' ⟨v, rfl, hy, hb⟩
    have hl : (run (xe z32) (nm16 (encr z32 y16)) (List.replicate 32 0) 2).length = 32 := run_len _ (fun m b hm hb => xe_blk z32 List.length_replicate (repl_all 32) m b hm hb) _ _ (repl_all 32) 2 (by rw [List.length_replicate]; omega)
    have hz := xzero
    generalize run (xe z32) (nm16 (encr z32 y16)) (List.replicate 32 0) 2 = zs at *
    obtain ⟨ao, cap, rfl, h4, h5, -, -, h8⟩ := hy
    obtain ⟨b, off, rfl, hc⟩ := h8 (by omega)
    have c0 := hc 0 (by omega)
    rw [hz, Nat.add_zero] at c0
    rw [hl] at h4 ⊢
    exact ⟨_, rfl, b, off, cap, rfl, c0, h4, hb⟩
  have A32 : Hid (z32 = List.replicate 32 0 ∧ y16 = List.replicate 16 0) := ⟨rfl, rfl⟩
  generalize z32 = k32 at *
  generalize y16 = b16 at *
  obtain ⟨s32, hs32⟩ : ∃ s : List Int, s = List.replicate 32 0 := ⟨_, rfl⟩
  have HS32 : Hid (s32 = List.replicate 32 0) := hs32
  rw [← hs32] at HE
  clear hs32
  go_enter Try.func8, Try.ntmps8
  go_wp2_with (first
    | (go_at_call 9; refine (HN.out _ _ Y1.out).mono ?_; rintro e w2 ⟨c2, rfl, k2, L2, B2⟩; have C2 : Hid (Cip w2 c2 k32 k32) := k2; have BB : Hid (Below w.heap.size w w2) := B1.trans (B2.mono B1.size); clear k2 B2)
    | (at_make; refine make_law _ rfl _ _ rfl w.heap.size (Nat.le_refl _) 32 32 rfl rfl rfl (by omega) ?_; intro w1 h1 B1 s1; have Y1 : Hid (Byt w1 (.slice (some ⟨w.heap.size, 0, none⟩) 32 32) k32) := OwnN.zero h1 A32.out.1; clear h1))
  clear Y1 B1 s1 HN
  refine wp_region_any (by kernel_rfl) ?_
  change wpAny _ _ _ _ _ _ _ (World.drew _)
  obtain ⟨wd, hwd⟩ : ∃ x, x = World.drew w2 := ⟨_, rfl⟩
  have CD : Hid (Cip wd c2 k32 k32) := by rw [hwd]; exact C2.out.below (Below.refl _ _).drew
  have BD : Hid (Below w.heap.size w wd) := by rw [hwd]; exact BB.out.drew
  rw [← hwd]
  clear C2 BB hwd L2
  refine take_lawG 0 (some 14) (.pointer (some ⟨c2, 0, none⟩)) rfl rfl (by kernel_rfl) (by kernel_rfl) (by kernel_rfl) (fun _ _ _ h => h) (Or.inl ⟨by rfl, fun w' => by rfl⟩) ?_
  simp only [Act.put, List.setIfInBounds_toArray, List.set_cons_zero, List.set_cons_succ]
  refine wpAny_ready (rs := [1, 2]) (by kernel_rfl) (by simp) ?_
  refine AllReady.cons rfl (fun K hK => ?_) (AllReady.cons rfl (fun K hK => ?_) AllReady.nil)
  · refine step_make _ rfl (some 15) rfl _ _ rfl wd.heap.size (Nat.le_refl _) 16 16 rfl rfl rfl (by omega) fun w3 h3 B3 sw3 => hK _ _ ?_
    simp only [Act.put, List.setIfInBounds_toArray, List.set_cons_zero, List.set_cons_succ]
    clear hK K
    have YA : Hid (Byt w3 (.slice (some ⟨wd.heap.size, 0, none⟩) 16 16) b16) := OwnN.zero h3 A32.out.2
    have CC : Hid (Cip w3 c2 k32 k32) := CD.out.below B3
    have BB : Hid (Below w.heap.size w w3) := BD.out.trans (B3.mono BD.out.size)
    clear h3 B3 CD BD
    obtain ⟨g1, hg1⟩ : ∃ g, g = wd.heap.size := ⟨_, rfl⟩
    rw [← hg1] at YA ⊢
    clear hg1
    refine wpAny_ready (rs := [2]) (by kernel_rfl) (by simp) ?_
    refine AllReady.cons rfl (fun K hK => ?_) AllReady.nil
    refine step_make _ rfl (some 16) rfl _ _ rfl w3.heap.size (Nat.le_refl _) 32 32 rfl rfl rfl (by omega) fun w4 h4 B4 sw4 => hK _ _ ?_
    simp only [Act.put, List.setIfInBounds_toArray, List.set_cons_zero, List.set_cons_succ]
    clear hK K
    have YS : Hid (Byt w4 (.slice (some ⟨w3.heap.size, 0, none⟩) 32 32) s32) := OwnN.zero h4 HS32.out
    have YA : Hid (Byt w4 (.slice (some ⟨g1, 0, none⟩) 16 16) b16) := YA.out.below B4
    have CC : Hid (Cip w4 c2 k32 k32) := CC.out.below B4
    have BB : Hid (Below w.heap.size w w4) := BB.out.trans (B4.mono BB.out.size)
    clear h4 B4
    refine wpAny_ready (rs := [3]) (by kernel_rfl) (by simp) ?_
    refine AllReady.cons rfl (fun K hK => ?_) AllReady.nil
    refine step_callW _ (by rfl) (some 17) rfl 10 #[.tmp 14, .tmp 15, .tmp 16] #[26, 22, 22] rfl (fun q w' => by rfl) #[.pointer (some ⟨c2, 0, none⟩), .slice (some ⟨g1, 0, none⟩) 16 16, .slice (some ⟨w3.heap.size, 0, none⟩) 32 32] (by simp only [List.map_toArray, List.map_cons, List.map_nil]; rfl) _ (HE.out _ _ _ _ CC.out YA.out YS.out) ?_
    rintro _ w5 ⟨gb_, off, cap, rfl, c0, hcap, B5⟩
    refine hK _ _ ?_
    simp only [Act.put, List.setIfInBounds_toArray, List.set_cons_zero, List.set_cons_succ]
    clear hK K
    refine take_lawG 4 (some 13) (.tuple #[.slice (some ⟨gb_, off, none⟩) 32 cap, .int .i64 0]) rfl rfl (by kernel_rfl) (by kernel_rfl) (by kernel_rfl) (fun _ _ _ h => h) (Or.inl ⟨by rfl, fun w' => by rfl⟩) ?_
    simp only [Act.put, List.setIfInBounds_toArray, List.set_cons_zero, List.set_cons_succ]
    refine take_lawG 5 (some 18) (.slice (some ⟨gb_, off, none⟩) 32 cap) rfl rfl (by kernel_rfl) (by kernel_rfl) (by kernel_rfl) (fun _ _ _ h => h) (Or.inl ⟨by rfl, fun w' => by rfl⟩) ?_
    simp only [Act.put, List.setIfInBounds_toArray, List.set_cons_zero, List.set_cons_succ]
    refine take_lawG 6 (some 19) (.int .i64 0) rfl rfl (by kernel_rfl) (by kernel_rfl) (by kernel_rfl) (fun _ _ _ h => h) (Or.inl ⟨by rfl, fun w' => by rfl⟩) ?_
    simp only [Act.put, List.setIfInBounds_toArray, List.set_cons_zero, List.set_cons_succ]
    refine wpAny_ready (rs := [7]) (by kernel_rfl) (by simp) ?_
    refine AllReady.cons rfl (fun K hK => ?_) AllReady.nil
    refine step_movG _ rfl (some 4) rfl (.tmp 18) rfl (.slice (some ⟨gb_, off, none⟩) 32 cap) rfl (hK _ _ ?_)
    simp only [Act.put, List.setIfInBounds_toArray, List.set_cons_zero, List.set_cons_succ]
    clear hK K
    refine wpAny_ready (rs := [8]) (by kernel_rfl) (by simp) ?_
    refine AllReady.cons rfl (fun K hK => ?_) AllReady.nil
    refine step_movG _ rfl (some 5) rfl (.tmp 19) rfl (.int .i64 0) rfl (hK _ _ ?_)
    simp only [Act.put, List.setIfInBounds_toArray, List.set_cons_zero, List.set_cons_succ]
    clear hK K
    refine wpAny_done (by kernel_rfl) ?_ _
    go_wp2
    go_ret
    exact ⟨rfl, BB.out.trans (B5.mono BB.out.size)⟩
  · refine step_make _ rfl (some 16) rfl _ _ rfl wd.heap.size (Nat.le_refl _) 32 32 rfl rfl rfl (by omega) fun w3 h3 B3 sw3 => hK _ _ ?_
    simp only [Act.put, List.setIfInBounds_toArray, List.set_cons_zero, List.set_cons_succ]
    clear hK K
    have YS : Hid (Byt w3 (.slice (some ⟨wd.heap.size, 0, none⟩) 32 32) s32) := OwnN.zero h3 HS32.out
    have CC : Hid (Cip w3 c2 k32 k32) := CD.out.below B3
    have BB : Hid (Below w.heap.size w w3) := BD.out.trans (B3.mono BD.out.size)
    clear h3 B3 CD BD
    obtain ⟨g1, hg1⟩ : ∃ g, g = wd.heap.size := ⟨_, rfl⟩
    rw [← hg1] at YS ⊢
    clear hg1
    refine wpAny_ready (rs := [1]) (by kernel_rfl) (by simp) ?_
    refine AllReady.cons rfl (fun K hK => ?_) AllReady.nil
    refine step_make _ rfl (some 15) rfl _ _ rfl w3.heap.size (Nat.le_refl _) 16 16 rfl rfl rfl (by omega) fun w4 h4 B4 sw4 => hK _ _ ?_
    simp only [Act.put, List.setIfInBounds_toArray, List.set_cons_zero, List.set_cons_succ]
    clear hK K
    have YA : Hid (Byt w4 (.slice (some ⟨w3.heap.size, 0, none⟩) 16 16) b16) := OwnN.zero h4 A32.out.2
    have YS : Hid (Byt w4 (.slice (some ⟨g1, 0, none⟩) 32 32) s32) := YS.out.below B4
    have CC : Hid (Cip w4 c2 k32 k32) := CC.out.below B4
    have BB : Hid (Below w.heap.size w w4) := BB.out.trans (B4.mono BB.out.size)
    clear h4 B4
    refine wpAny_ready (rs := [3]) (by kernel_rfl) (by simp) ?_
    refine AllReady.cons rfl (fun K hK => ?_) AllReady.nil
    refine step_callW _ (by rfl) (some 17) rfl 10 #[.tmp 14, .tmp 15, .tmp 16] #[26, 22, 22] rfl (fun q w' => by rfl) #[.pointer (some ⟨c2, 0, none⟩), .slice (some ⟨w3.heap.size, 0, none⟩) 16 16, .slice (some ⟨g1, 0, none⟩) 32 32] (by simp only [List.map_toArray, List.map_cons, List.map_nil]; rfl) _ (HE.out _ _ _ _ CC.out YA.out YS.out) ?_
    rintro _ w5 ⟨gb_, off, cap, rfl, c0, hcap, B5⟩
    refine hK _ _ ?_
    simp only [Act.put, List.setIfInBounds_toArray, List.set_cons_zero, List.set_cons_succ]
    clear hK K
    refine take_lawG 4 (some 13) (.tuple #[.slice (some ⟨gb_, off, none⟩) 32 cap, .int .i64 0]) rfl rfl (by kernel_rfl) (by kernel_rfl) (by kernel_rfl) (fun _ _ _ h => h) (Or.inl ⟨by rfl, fun w' => by rfl⟩) ?_
    simp only [Act.put, List.setIfInBounds_toArray, List.set_cons_zero, List.set_cons_succ]
    refine take_lawG 5 (some 18) (.slice (some ⟨gb_, off, none⟩) 32 cap) rfl rfl (by kernel_rfl) (by kernel_rfl) (by kernel_rfl) (fun _ _ _ h => h) (Or.inl ⟨by rfl, fun w' => by rfl⟩) ?_
    simp only [Act.put, List.setIfInBounds_toArray, List.set_cons_zero, List.set_cons_succ]
    refine take_lawG 6 (some 19) (.int .i64 0) rfl rfl (by kernel_rfl) (by kernel_rfl) (by kernel_rfl) (fun _ _ _ h => h) (Or.inl ⟨by rfl, fun w' => by rfl⟩) ?_
    simp only [Act.put, List.setIfInBounds_toArray, List.set_cons_zero, List.set_cons_succ]
    refine wpAny_ready (rs := [7]) (by kernel_rfl) (by simp) ?_
    refine AllReady.cons rfl (fun K hK => ?_) AllReady.nil
    refine step_movG _ rfl (some 4) rfl (.tmp 18) rfl (.slice (some ⟨gb_, off, none⟩) 32 cap) rfl (hK _ _ ?_)
    simp only [Act.put, List.setIfInBounds_toArray, List.set_cons_zero, List.set_cons_succ]
    clear hK K
    refine wpAny_ready (rs := [8]) (by kernel_rfl) (by simp) ?_
    refine AllReady.cons rfl (fun K hK => ?_) AllReady.nil
    refine step_movG _ rfl (some 5) rfl (.tmp 19) rfl (.int .i64 0) rfl (hK _ _ ?_)
    simp only [Act.put, List.setIfInBounds_toArray, List.set_cons_zero, List.set_cons_succ]
    clear hK K
    refine wpAny_done (by kernel_rfl) ?_ _
    go_wp2
    go_ret
    exact ⟨rfl, BB.out.trans (B5.mono BB.out.size)⟩
end Go.Proofs.Ytijadglmbopboaa.xt

/- What the reference's Right of layer 9 answers. No claim of its own. -/
namespace Go.Proofs.Ytijadglmbopboaa.xt
open Go.RowKit

/-- keys, a tweak and a sector that may be -/
def Ok (dk tk ab s : List Int) : Prop := dk.length = 32 ∧ tk.length = 32 ∧ ab.length = 16 ∧ 16 ≤ s.length ∧ s.length ≤ 4096 ∧ s.length % 16 = 0
/-- the same, as a Bool -/
def Okb (dk tk ab s : List Int) : Bool := decide (dk.length = 32 ∧ tk.length = 32 ∧ ab.length = 16 ∧ 16 ≤ s.length ∧ s.length ≤ 4096 ∧ s.length % 16 = 0)
theorem okb_yes {dk tk ab s : List Int} (h : Ok dk tk ab s) : true = Okb dk tk ab s := by
  unfold Ok at h
  exact (decide_eq_true h).symm
theorem okb_no {dk tk ab s : List Int} (h : ¬ Ok dk tk ab s) : false = Okb dk tk ab s := by
  unfold Ok at h
  exact (decide_eq_false h).symm

set_option maxHeartbeats 2000000 in
theorem right_any (w : World) (dv tv av sv : Value) (dk tk ab s : List Int) (hd : Byt w dv dk) (ht : Byt w tv tk) (ha : Byt w av ab) (hs : Byt w sv s) (b : Bool) (hb : b = Okb dk tk ab s) :
    Calls Try.prog 11 #[dv, tv, av, sv] w fun e w' => e = .returned (.bool b) ∧ w' = w := by
  obtain ⟨o1, p1, rfl, h1, h2, -, -, -⟩ := hd
  obtain ⟨o2, p2, rfl, h3, h4, -, -, -⟩ := ht
  obtain ⟨o3, p3, rfl, h5, h6, -, -, -⟩ := ha
  obtain ⟨o4, p4, rfl, h7, h8, -, -, -⟩ := hs
  replace hb : b = decide (dk.length = 32 ∧ tk.length = 32 ∧ ab.length = 16 ∧ 16 ≤ s.length ∧ s.length ≤ 4096 ∧ s.length % 16 = 0) := hb
  generalize dk.length = k at *
  generalize tk.length = l at *
  generalize ab.length = j at *
  generalize s.length = n at *
  have HB : Hid (b = decide (k = 32 ∧ l = 32 ∧ j = 16 ∧ 16 ≤ n ∧ n ≤ 4096 ∧ n % 16 = 0)) := hb
  clear hb
  obtain ⟨m, hm⟩ : ∃ m, m = n % 16 := ⟨_, rfl⟩
  have HM : Hid (m = n % 16) := hm
  have d1 : (n : Int).tmod 16 = (m : Int) := by rw [Int.tmod_eq_emod_of_nonneg (by omega)]; omega
  have d2 : IntKind.i64.wrap (m : Int) = m := by rw [IntKind.wrap_i64]; omega
  clear hm
  by_cases a1 : k = 32
  · subst a1
    by_cases a2 : l = 32
    · subst a2
      by_cases a3 : j = 16
      · subst a3
        by_cases a4 : 16 ≤ n
        · have l4 : (16 : Int) ≤ (n : Int) := by omega
          by_cases a5 : n ≤ 4096
          · have l5 : (n : Int) ≤ 4096 := by omega
            by_cases a6 : m = 0
            · subst a6
              go_enter Try.func11, Try.ntmps11
              go_wp2
              go_ret
              exact ⟨ret_bool (by rw [HB.out, ← HM.out]; simp [a4, a5]), rfl⟩
            · have l6 : ¬ ((m : Int) = 0) := by omega
              go_enter Try.func11, Try.ntmps11
              go_wp2
              go_ret
              have e0 : ((m : Int) == 0) = false := by simpa using a6
              exact ⟨ret_bool (by rw [HB.out, ← HM.out, e0]; simp [a6]), rfl⟩
          · have l5 : ¬ (n : Int) ≤ 4096 := by omega
            go_enter Try.func11, Try.ntmps11
            go_wp2
            go_ret
            exact ⟨ret_bool (by rw [HB.out]; simp [a5]), rfl⟩
        · have l4 : ¬ (16 : Int) ≤ (n : Int) := by omega
          go_enter Try.func11, Try.ntmps11
          go_wp2
          go_ret
          exact ⟨ret_bool (by rw [HB.out]; simp [a4]), rfl⟩
      · have l3 : ((j : Int) == 16) = false := by simp; omega
        have HJ : Hid (¬ j = 16) := a3
        clear a3
        go_enter Try.func11, Try.ntmps11
        go_wp2
        go_ret
        exact ⟨ret_bool (by rw [HB.out]; simp [HJ.out]), rfl⟩
    · have l2 : ((l : Int) == 32) = false := by simp; omega
      have HJ : Hid (¬ l = 32) := a2
      clear a2
      go_enter Try.func11, Try.ntmps11
      go_wp2
      go_ret
      exact ⟨ret_bool (by rw [HB.out]; simp [HJ.out]), rfl⟩
  · have l1 : ((k : Int) == 32) = false := by simp; omega
    have HJ : Hid (¬ k = 32) := a1
    clear a1
    go_enter Try.func11, Try.ntmps11
    go_wp2
    go_ret
    exact ⟨ret_bool (by rw [HB.out]; simp [HJ.out]), rfl⟩
end Go.Proofs.Ytijadglmbopboaa.xt

/- What an argument that is an array of bytes holds; two slices that hold the same. No claim of its own. -/
namespace Go.Proofs.Ytijadglmbopboaa
open Go.ChangeShapes Go.WideShapes Go.ChangeAt Go.RowKit

/-- an argument that is an array of bytes -/
theorem arr_open {H : Type} {enc : TypeId × Value → H} {W : World} {base : Nat} {v : Value} {d : DataW H} {ps : List MemPlace} {t : TypeId} {n : Nat} (hu : Try.prog.underlying t = some (.array n 5)) (hcn : Try.prog.cellsOf t = n)
    (ok : Value.okWide Try.prog W .any base t v) (h : DataW.Trod enc Try.prog W 0 (fun _ => true) true t v d ps) : ∃ l : List Nat, v = .agg (l.map fun x : Nat => Value.int .u8 (x : Int)).toArray ∧ l.length = n ∧ ∀ x ∈ l, x < 256 := by
  simp only [Value.okWide, hu] at ok
  obtain ⟨cs, rfl, h2, _⟩ := ok
  rw [hcn] at h2
  obtain ⟨l⟩ := cs
  obtain ⟨fuel, hf⟩ := h
  obtain ⟨xs, m, rfl, hx, hcl, hxl, hall⟩ := DataW.trod_array hu hf
  have h2' : l.length = n := by simpa using h2
  have key : ∀ c ∈ l, ∃ x : Nat, c = .int .u8 (x : Int) ∧ x < 256 := by
    intro c hc
    obtain ⟨i, hi, rfl⟩ := List.getElem_of_mem hc
    have a0 := hall i (by omega)
    rw [cells_u8, List.getElem?_eq_getElem (by omega)] at a0
    have e : ((Value.agg ⟨l⟩).cells.toList.drop (i * 1)).take 1 = [l[i]] := by
      show (l.drop (i * 1)).take 1 = [l[i]]
      rw [Nat.mul_one, List.drop_eq_getElem_cons hi]; rfl
    rw [e] at a0
    obtain ⟨y, hy, -, hw⟩ := DataW.trod_int Try.underlying5 a0
    have hb := bounds_u8 hw
    refine ⟨y.toNat, ?_, by omega⟩
    rw [show ((y.toNat : Nat) : Int) = y by omega]
    simpa using hy
  clear hall hx hcl hxl hf h2
  refine ⟨l.map fun c => match c with | .int _ y => y.toNat | _ => 0, ?_, by simpa using h2', ?_⟩
  · congr 1
    refine congrArg List.toArray ?_
    rw [List.map_map]
    symm
    refine (List.map_congr_left fun c hc => ?_).trans (List.map_id l)
    obtain ⟨x, rfl, _⟩ := key c hc
    simp
  · intro x hx
    obtain ⟨c, hc, rfl⟩ := List.mem_map.1 hx
    obtain ⟨x, rfl, hx'⟩ := key c hc
    simpa using hx'

/-- its numbers, as whole numbers -/
theorem arr_ints (l : List Nat) : (l.map fun x : Nat => Value.int .u8 (x : Int)).toArray = ints .u8 (cI l) := by simp [ints, cI]
theorem arr_all (l : List Nat) (h : ∀ x ∈ l, x < 256) : AllB (cI l) := allB_mem fun x hx => by
  obtain ⟨y, hy, rfl⟩ := List.mem_map.1 hx
  have := h y hy
  omega
/-- two slices that hold the same bytes -/
theorem same_yes (w : World) (va vb : Value) (xs : List Int) (ha : Byt w va xs) (hb : Byt w vb xs) :
    Calls Try.prog 12 #[va, vb] w fun e w' => e = .returned (.bool true) ∧ Below w.heap.size w w' :=
  (same_any w va vb xs xs ha hb).mono fun _ _ ⟨he, n, hw⟩ => ⟨by rw [he, decide_eq_true rfl], by rw [hw]; exact below_drewN (Below.refl _ _) n⟩
end Go.Proofs.Ytijadglmbopboaa

/- What the laws of stage 9 share: the keys in their place. No claim of its own. -/
namespace Go.Proofs.Ytijadglmbopboaa.xt
open Go.RowKit

/-- three values in a row, in block b -/
def Bx (w : World) (b : Nat) (v0 v1 v2 : Value) : Prop := w.cell? ⟨b, 0, none⟩ = some v0 ∧ w.cell? ⟨b, 1, none⟩ = some v1 ∧ w.cell? ⟨b, 2, none⟩ = some v2
theorem Bx.lt {w : World} {b : Nat} {v0 v1 v2 : Value} (h : Bx w b v0 v1 v2) : b < w.heap.size := World.block_lt_of_cell? w _ h.1
theorem Bx.below {w w' : World} {b : Nat} {v0 v1 v2 : Value} (h : Bx w b v0 v1 v2) (hb : Below w.heap.size w w') : Bx w' b v0 v1 v2 := by
  have e := hb.block b h.lt
  refine ⟨?_, ?_, ?_⟩
  · rw [World.cell?_of_block (w := w) (w' := w') (a := ⟨b, 0, none⟩) e]; exact h.1
  · rw [World.cell?_of_block (w := w) (w' := w') (a := ⟨b, 1, none⟩) e]; exact h.2.1
  · rw [World.cell?_of_block (w := w) (w' := w') (a := ⟨b, 2, none⟩) e]; exact h.2.2
/-- a slice is read from its place -/
theorem run_loadB (w : World) (b p : Nat) (v : Value) (h : w.cell? ⟨b, p, none⟩ = some v) : (Instr.loadAt 22 (.pointer (some ⟨b, p, none⟩))).run Try.prog w = .ok v w := by
  have : (loadVar 22 ⟨b, p, none⟩).run Try.prog w = .ok v w := by simp [loadVar, isAgg, run_underlying Try.underlying22, h]
  simp only [Instr.loadAt, Instr.sureAddr, Sem.run_bind, Sem.run_pure, Result.andThen_ok, this]
theorem Bx.load0 {w : World} {b : Nat} {v0 v1 v2 : Value} (h : Bx w b v0 v1 v2) : (Instr.loadAt 22 (.pointer (some ⟨b, 0, none⟩))).run Try.prog w = .ok v0 w := run_loadB w b 0 v0 h.1
theorem Bx.load1 {w : World} {b : Nat} {v0 v1 v2 : Value} (h : Bx w b v0 v1 v2) : (Instr.loadAt 22 (.pointer (some ⟨b, 1, none⟩))).run Try.prog w = .ok v1 w := run_loadB w b 1 v1 h.2.1
theorem Bx.load2 {w : World} {b : Nat} {v0 v1 v2 : Value} (h : Bx w b v0 v1 v2) : (Instr.loadAt 22 (.pointer (some ⟨b, 2, none⟩))).run Try.prog w = .ok v2 w := run_loadB w b 2 v2 h.2.2
/-- the keys get a place -/
theorem box_keys {ops : Array Oper} {rest : List Oper} {o : Oper} {a : Act} {Q : Exit → Act → World → Prop} (w : World) (hg : o.guard = none) (x : Operand) (hop : o.op = Op.box 24 x) (v0 v1 v2 : Value) (hx : a.eval x = .agg #[v0, v1, v2])
    (hK : ∀ w', Bx w' w.heap.size v0 v1 v2 → Below w.heap.size w w' → wpList Try.prog ops Q rest (a.put o.dst (.pointer (some ⟨w.heap.size, 0, none⟩))) w') :
    wpList Try.prog ops Q (o :: rest) a w := by
  have e : ∀ i, (w.alloc (.cells #[v0, v1, v2] 24)).cell? ⟨w.heap.size, i, none⟩ = #[v0, v1, v2][i]? := fun i => cell_of_row _ w.heap.size i _ 24 (0, 0) (heap_alloc_last w _)
  refine wpList_plain hg fun K hK' => ?_
  have := hK _ ⟨by rw [e]; rfl, by rw [e]; rfl, by rw [e]; rfl⟩ ((Below.refl _ _).alloc (Nat.le_refl _) _)
  unfold Oper.wp
  simp [execOp, hop, hx, Instr.box, newVar, newRow, Value.cells, Result.andThen]
  exact hK' _ _ this
theorem keeps_e (dk : List Int) (hl : dk.length = 32) (ha : AllB dk) : Keeps (xe dk) := fun m b hm hb => xe_blk dk hl ha m b hm hb
theorem keeps_d (dk : List Int) (hl : dk.length = 32) (ha : AllB dk) : Keeps (xd dk) := fun m b hm hb => xd_blk dk hl ha m b hm hb
end Go.Proofs.Ytijadglmbopboaa.xt

/- What the reference's Sub answers. No claim of its own. -/
namespace Go.Proofs.Ytijadglmbopboaa
open Go.RowKit

set_option maxHeartbeats 1000000 in
theorem rsbit_any (n i : Nat) (w : World) (hn : n < 256) (hi : i < 16) :
    Calls Try.prog 50 #[.int .u8 n, .int .i64 i] w fun e w' => e = .returned (.int .i64 (b8 n i)) ∧ w' = w := by
  have HB : Hid (b8 n i = hv n (i % 8) % 2) := rfl
  obtain ⟨m, hm⟩ : ∃ m, m = i % 8 := ⟨_, rfl⟩
  rw [← hm] at HB
  have hm8 : m < 8 := by omega
  have r1 : ((i : Int)).tmod 8 = (m : Int) := by rw [Int.tmod_eq_emod_of_nonneg (by omega)]; omega
  have r2 : (i : Int) % 8 = (m : Int) := by omega
  generalize b8 n i = q at *
  clear hm
  go_enter Try.func50, Try.ntmps50
  go_wp2
  go_loop [5, 6] (fun x j => ∃ k : Nat, k ≤ m ∧ j = .int .i64 k ∧ x = .int .i64 (hv n k)) (fun _ j => m - (intOf j).toNat)
  case atStart => exact ⟨0, Nat.zero_le _, rfl, by simp [hv]⟩
  case round =>
    obtain ⟨k, hk, rfl, rfl⟩ := hrel
    have h1 := hv_le n k
    have h2 := hv_succ n k
    by_cases hlt : k < m
    · have H2 : Hid (hv n k / 2 = hv n (k + 1)) := h2
      clear h2
      go_wp2
      go_round
      case rel => exact ⟨k + 1, by omega, by go_num, by rw [← H2.out]; simp⟩
      case measure => simp [intOf]; omega
    · have hks : k = m := by omega
      subst hks
      clear h2
      go_wp2
      go_ret
      exact ⟨ret_int (by rw [HB.out]; simp), rfl⟩

set_option maxHeartbeats 4000000 in
theorem rsub_any (a : Nat) (w : World) (ha : a < 256) :
    Calls Try.prog 24 #[.int .u8 a] w fun e w' => e = .returned (.int .u8 (sb a)) ∧ w' = w := by
  have HI : Hid (∀ w, Calls Try.prog 49 #[.int .u8 a] w fun e w' => e = .returned (.int .u8 (iv a)) ∧ w' = w) := fun w => rinv_any a w ha
  have HE : Hid (so (iv a) 8 = sb a ∧ sb a < 256) := ⟨so_iv a ha, sb_lt a ha⟩
  have HV : Hid (iv a < 256) := iv_lt a
  generalize sb a = s at *
  generalize iv a = v at *
  clear ha
  go_enter Try.func24, Try.ntmps24
  go_wp2_with (go_at_call 49; refine (HI.out _).mono ?_; rintro e w' ⟨rfl, hw⟩; obtain rfl := hw.symm)
  go_loop [4, 5, 6] (fun o p i => ∃ k q : Nat, k ≤ 8 ∧ i = .int .i64 k ∧ p = .int .i64 q ∧ q = 2 ^ k ∧ o = .int .i64 (so v k)) (fun _ _ i => 8 - (intOf i).toNat)
  case atStart => exact ⟨0, 1, Nat.zero_le _, rfl, rfl, rfl, rfl⟩
  case round =>
    obtain ⟨k, q, hk, rfl, rfl, hq, rfl⟩ := hrel
    have hq2 : q ≤ 256 := by rw [hq]; exact (show 2 ^ k ≤ 2 ^ 8 from Nat.pow_le_pow_right (by omega) (by omega))
    have ho := so_lt v k
    rw [← hq] at ho
    have HQ : Hid (q = 2 ^ k) := hq
    clear hq
    by_cases hlt : k < 8
    · have C0 : Hid (∀ w, Calls Try.prog 50 #[.int .u8 v, .int .i64 k] w fun e w' => e = .returned (.int .i64 (b8 v k)) ∧ w' = w) := fun w => rsbit_any v k w HV.out (by omega)
      obtain ⟨k4, hk4⟩ : ∃ m : Nat, k + 4 = m := ⟨_, rfl⟩
      have hi4 : (k : Int) + 4 = (k4 : Int) := by omega
      have C4 : Hid (∀ w, Calls Try.prog 50 #[.int .u8 v, .int .i64 k4] w fun e w' => e = .returned (.int .i64 (b8 v (k + 4))) ∧ w' = w) := by
        rw [hk4]; exact fun w => rsbit_any v k4 w HV.out (by omega)
      obtain ⟨k5, hk5⟩ : ∃ m : Nat, k + 5 = m := ⟨_, rfl⟩
      have hi5 : (k : Int) + 5 = (k5 : Int) := by omega
      have C5 : Hid (∀ w, Calls Try.prog 50 #[.int .u8 v, .int .i64 k5] w fun e w' => e = .returned (.int .i64 (b8 v (k + 5))) ∧ w' = w) := by
        rw [hk5]; exact fun w => rsbit_any v k5 w HV.out (by omega)
      obtain ⟨k6, hk6⟩ : ∃ m : Nat, k + 6 = m := ⟨_, rfl⟩
      have hi6 : (k : Int) + 6 = (k6 : Int) := by omega
      have C6 : Hid (∀ w, Calls Try.prog 50 #[.int .u8 v, .int .i64 k6] w fun e w' => e = .returned (.int .i64 (b8 v (k + 6))) ∧ w' = w) := by
        rw [hk6]; exact fun w => rsbit_any v k6 w HV.out (by omega)
      obtain ⟨k7, hk7⟩ : ∃ m : Nat, k + 7 = m := ⟨_, rfl⟩
      have hi7 : (k : Int) + 7 = (k7 : Int) := by omega
      have C7 : Hid (∀ w, Calls Try.prog 50 #[.int .u8 v, .int .i64 k7] w fun e w' => e = .returned (.int .i64 (b8 v (k + 7))) ∧ w' = w) := by
        rw [hk7]; exact fun w => rsbit_any v k7 w HV.out (by omega)
      have C9 : Hid (∀ w, Calls Try.prog 50 #[.int .u8 99, .int .i64 k] w fun e w' => e = .returned (.int .i64 (b8 99 k)) ∧ w' = w) := fun w => rsbit_any 99 k w (by omega) (by omega)
      have hS : so v (k + 1) = so v k + 2 ^ k * sbt v k := rfl
      rw [← HQ.out] at hS
      have l0 := b8_lt v k
      have l4 := b8_lt v (k + 4)
      have l5 := b8_lt v (k + 5)
      have l6 := b8_lt v (k + 6)
      have l7 := b8_lt v (k + 7)
      have l9 := b8_lt 99 k
      have HD : Hid (sbt v k = b8 v k ^^^ b8 v (k + 4) ^^^ b8 v (k + 5) ^^^ b8 v (k + 6) ^^^ b8 v (k + 7) ^^^ b8 99 k) := rfl
      generalize b8 v k = e0 at *
      generalize b8 v (k + 4) = e4 at *
      generalize b8 v (k + 5) = e5 at *
      generalize b8 v (k + 6) = e6 at *
      generalize b8 v (k + 7) = e7 at *
      generalize b8 99 k = e9 at *
      have x4 := i64_xor_nat e0 e4 (by omega) (by omega)
      have y4 := xor2 e0 e4 l0 l4
      obtain ⟨f4, hf4⟩ : ∃ f, f = e0 ^^^ e4 := ⟨_, rfl⟩
      rw [← hf4] at x4 y4 HD
      have x5 := i64_xor_nat f4 e5 (by omega) (by omega)
      have y5 := xor2 f4 e5 y4 l5
      obtain ⟨f5, hf5⟩ : ∃ f, f = f4 ^^^ e5 := ⟨_, rfl⟩
      rw [← hf5] at x5 y5 HD
      have x6 := i64_xor_nat f5 e6 (by omega) (by omega)
      have y6 := xor2 f5 e6 y5 l6
      obtain ⟨f6, hf6⟩ : ∃ f, f = f5 ^^^ e6 := ⟨_, rfl⟩
      rw [← hf6] at x6 y6 HD
      have x7 := i64_xor_nat f6 e7 (by omega) (by omega)
      have y7 := xor2 f6 e7 y6 l7
      obtain ⟨f7, hf7⟩ : ∃ f, f = f6 ^^^ e7 := ⟨_, rfl⟩
      rw [← hf7] at x7 y7 HD
      have x9 := i64_xor_nat f7 e9 (by omega) (by omega)
      have y9 := xor2 f7 e9 y7 l9
      obtain ⟨f9, hf9⟩ : ∃ f, f = f7 ^^^ e9 := ⟨_, rfl⟩
      rw [← hf9] at x9 y9 HD
      rw [HD.out] at hS
      have HS : Hid (so v (k + 1) = so v k + q * f9) := hS
      have hm : 0 ≤ (q : Int) * (f9 : Int) ∧ (q : Int) * (f9 : Int) ≤ 256 := by
        rw [← Int.natCast_mul]
        have : q * f9 ≤ q * 1 := Nat.mul_le_mul_left _ (by omega)
        omega
      clear hk4 hk5 hk6 hk7 hS HD hf4 hf5 hf6 hf7 hf9 l0 l4 l5 l6 l7 l9 y4 y5 y6 y7 y9
      generalize so v k = o at *
      go_wp2_with (first
        | (go_at_call_of 50 (Value.int IntKind.u8 (v : Int)); go_at_call_of 50 (Value.int IntKind.i64 (k : Int)); refine (C0.out _).mono ?_; rintro e w' ⟨rfl, hw⟩; obtain rfl := hw.symm)
        | (go_at_call_of 50 (Value.int IntKind.i64 (k7 : Int)); refine (C7.out _).mono ?_; rintro e w' ⟨rfl, hw⟩; obtain rfl := hw.symm)
        | (go_at_call_of 50 (Value.int IntKind.i64 (k6 : Int)); refine (C6.out _).mono ?_; rintro e w' ⟨rfl, hw⟩; obtain rfl := hw.symm)
        | (go_at_call_of 50 (Value.int IntKind.i64 (k5 : Int)); refine (C5.out _).mono ?_; rintro e w' ⟨rfl, hw⟩; obtain rfl := hw.symm)
        | (go_at_call_of 50 (Value.int IntKind.i64 (k4 : Int)); refine (C4.out _).mono ?_; rintro e w' ⟨rfl, hw⟩; obtain rfl := hw.symm)
        | (go_at_call_of 50 (Value.int IntKind.i64 (k : Int)); refine (C9.out _).mono ?_; rintro e w' ⟨rfl, hw⟩; obtain rfl := hw.symm))
      go_round
      case rel => exact ⟨k + 1, q * 2, by omega, by go_num, by go_num, by rw [HQ.out, Nat.pow_succ], by rw [HS.out]; simp⟩
      case measure => simp [intOf]; omega
    · have hk8 : k = 8 := by omega
      subst hk8
      rw [HE.out.1]
      have hs := HE.out.2
      clear HE ho
      go_wp2
      go_ret
      exact ⟨ret_int (by omega), rfl⟩
end Go.Proofs.Ytijadglmbopboaa

/- What the reference's Table, Turned and put answer. No claim of its own. -/
namespace Go.Proofs.Ytijadglmbopboaa
open Go.RowKit

set_option maxRecDepth 20000 in
set_option maxHeartbeats 2000000 in
theorem rtable_any (w : World) :
    Calls Try.prog 14 #[] w fun e w' => ∃ v, e = .returned v ∧ Byt w' v ptab ∧ Below w.heap.size w w' := by
  have HG : Hid (∀ a, a < 256 → gb ptab a = (sb a : Int)) := gb_p
  have HL : Hid (ptab.length = 256) := ptab_len
  have HA : Hid (AllB ptab) := pAll
  have HS : Hid (∀ k, k < 256 → ptab.take (k + 1) = ptab.take k ++ [(sb k : Int)]) := fun k hk => by
    rw [take_snoc_gb ptab k (by rw [ptab_len]; exact hk), gb_p k hk]
  generalize ptab = tb at *
  go_enter Try.func14, Try.ntmps14
  go_wp2
  go_loopw [1, 2] (fun v i wr => ∃ k : Nat, k ≤ 256 ∧ i = .int .i64 k ∧ Own w.heap.size wr v (tb.take k) ∧ Below w.heap.size w wr) (fun _ i _ => 256 - (intOf i).toNat)
  case atStart => exact ⟨0, Nat.zero_le _, rfl, Own.empty w (Nat.le_refl _), (Below.refl _ _).alloc (Nat.le_refl _) _⟩
  case round =>
    obtain ⟨k, hk, rfl, hown, hbel⟩ := hrel
    have hsz := hbel.size
    have k0 : (0 : Int) ≤ (k : Int) := by omega
    by_cases hlt : k < 256
    · have k1 : (k : Int) < 256 := by omega
      have uw : IntKind.u8.wrap (k : Int) = (k : Int) := by rw [IntKind.wrap_u8']; omega
      have R1 : Hid (∀ w0, Calls Try.prog 24 #[.int .u8 k] w0 fun e w' => e = .returned (.int .u8 (sb k)) ∧ w' = w0) := fun w0 => rsub_any k w0 hlt
      have SN : Hid (tb.take (k + 1) = tb.take k ++ [(sb k : Int)]) := HS.out k hlt
      have LN : Hid ((tb.take k).length ≤ 1099511627776) := by show _ ≤ _; rw [List.length_take, HL.out]; omega
      have HO : Hid (Own w.heap.size wr u1 (tb.take k)) := hown
      clear hown
      generalize sb k = y at *
      go_wp2_with (first
        | (go_at_call 24; refine (R1.out _).mono ?_; rintro e w2 ⟨rfl, hw⟩; obtain rfl := hw.symm)
        | (at_builtin; refine push_law wr rfl (.tmp 8) (.tmp 12) rfl w.heap.size (by omega) _ _ (y : Int) rfl rfl HO.out LN.out ?_; intro v' w1 hown' hbel'))
      rw [← SN.out] at hown'
      go_roundw
      case rel => exact ⟨k + 1, by omega, by go_num, hown', hbel.trans hbel'⟩
      case measure => simp [intOf]; omega
    · have hk256 : k = 256 := by omega
      subst hk256
      rw [List.take_of_length_le (by rw [HL.out]; omega)] at hown
      go_wp2
      go_ret
      exact ⟨_, rfl, hown.byt HA.out, hbel⟩

/-- as far as the first k bytes are put back -/
def prb (k : Nat) : List Int := (List.range 256).map fun t => if sk t < k then (sk t : Int) else 0
theorem prb_len (k : Nat) : (prb k).length = 256 := by simp [prb]
theorem gb_prb (k t : Nat) (h : t < 256) : gb (prb k) t = if sk t < k then (sk t : Int) else 0 := range_gb _ _ _ h
theorem prb_zero : prb 0 = List.replicate 256 0 := ext_gb (by rw [prb_len, List.length_replicate]) fun t ht => by
  rw [prb_len] at ht
  rw [gb_prb _ _ ht, if_neg (by omega)]
  unfold gb
  rw [List.getD_eq_getElem?_getD, List.getElem?_replicate, if_pos ht]; rfl
theorem prb_end : prb 256 = btab := ext_gb (by rw [prb_len, btab_len]) fun t ht => by
  rw [prb_len] at ht
  rw [gb_prb _ _ ht, if_pos (sk_lt t ht), gb_b t ht]
theorem prb_set (k : Nat) (h : k < 256) : (prb k).set (sb k) (k : Int) = prb (k + 1) := ext_gb (by simp [prb]) fun t ht => by
  rw [List.length_set, prb_len] at ht
  rw [gb_set _ _ _ _ (by rw [prb_len]; exact ht), gb_prb _ _ ht, gb_prb _ _ ht]
  by_cases e : sb k = t
  · have : sk t = k := by rw [← e, sk_sb k h]
    rw [if_pos e, this, if_pos (by omega)]
  · rw [if_neg e]
    have : sk t ≠ k := fun h' => e (by rw [← h', sb_sk t ht])
    by_cases h1 : sk t < k
    · rw [if_pos h1, if_pos (by omega)]
    · rw [if_neg h1, if_neg (by omega)]

set_option maxRecDepth 20000 in
set_option maxHeartbeats 2000000 in
theorem rturnedT_any (v : Value) (w : World) (hv : Byt w v ptab) :
    Calls Try.prog 53 #[v] w fun e w' => ∃ v', e = .returned v' ∧ Byt w' v' btab ∧ Below w.heap.size w w' := by
  obtain ⟨ao, ca, rfl, ha1, ha2, ha3, -, ha5⟩ := hv
  rw [ptab_len] at ha1 ha5 ⊢
  obtain ⟨bb, bo, rfl, hcell⟩ := ha5 (by omega)
  have HC : Hid (∀ t, t < 256 → w.cell? ⟨bb, bo + t, none⟩ = some (.int .u8 (sb t : Int))) := fun t ht => by
    rw [hcell t ht, gb_p t ht]
  have hbw : bb < w.heap.size := World.block_lt_of_cell? w _ (hcell 0 (by omega))
  have HE : Hid (prb 256 = btab) := prb_end
  have HA : Hid (AllB btab ∧ btab.length = 256) := ⟨bAll, btab_len⟩
  generalize btab = tb at *
  clear hcell ha5 ha3
  go_enter Try.func53, Try.ntmps53
  go_wp2_with (at_make; refine make_law _ rfl _ _ rfl w.heap.size (Nat.le_refl _) 256 256 rfl rfl rfl (by omega) ?_; intro w1 hown B1 s1; have HO1 : Hid (Ar w1 w.heap.size 0 .u8 (List.replicate 256 0)) := hown.arG; clear hown)
  generalize hg0 : w.heap.size = g0 at *
  go_loopw [4] (fun i wr => ∃ k : Nat, k ≤ 256 ∧ i = .int .i64 k ∧ Ar wr g0 0 .u8 (prb k) ∧ Below g0 w wr) (fun i _ => 256 - (intOf i).toNat)
  case atStart => exact ⟨0, Nat.zero_le _, rfl, by rw [prb_zero]; exact HO1.out, B1⟩
  case round =>
    obtain ⟨k, hk, rfl, hA, hB⟩ := hrel
    have k0 : (0 : Int) ≤ (k : Int) := by omega
    by_cases hlt : k < 256
    · have k1 : (k : Int) < 256 := by omega
      have u1 : IntKind.u8.wrap (k : Int) = (k : Int) := by rw [IntKind.wrap_u8']; omega
      have s1 := sb_lt k hlt
      have s2 : (0 : Int) ≤ (sb k : Int) := by omega
      have s3 : (sb k : Int) < 256 := by omega
      have c1 : wr.cell? ⟨bb, bo + k, none⟩ = some (.int .u8 (sb k : Int)) := (hB.cell hbw).trans (HC.out k hlt)
      have c3 := hA.cell0 (sb k) (by rw [prb_len]; exact s1)
      have c4 := hA.free0 (sb k) (by rw [prb_len]; exact s1)
      have hA2 : Hid (Ar (wr.setCell ⟨g0, sb k, none⟩ (.int .u8 (k : Int))) g0 0 .u8 (prb (k + 1))) := by
        have h := hA.set0 (sb k) (by rw [prb_len]; exact s1) (k : Int)
        rw [prb_set k hlt] at h
        exact h
      have hB2 : Hid (Below g0 w (wr.setCell ⟨g0, sb k, none⟩ (.int .u8 (k : Int)))) := hB.setCell (Nat.le_refl _) _
      clear hA
      generalize sb k = y at *
      go_wp2
      go_roundw
      case rel => exact ⟨k + 1, by omega, by go_num, hA2.out, hB2.out⟩
      case measure => simp [intOf]; omega
    · have hk256 : k = 256 := by omega
      subst hk256
      rw [HE.out] at hA
      go_wp2
      go_ret
      exact ⟨_, rfl, hA.bytG HA.out.1 256 256 HA.out.2 (by omega) (by omega), by rw [hg0]; exact hB⟩

set_option maxRecDepth 20000 in
set_option maxHeartbeats 2000000 in
theorem rput_any (v tv : Value) (xs tab : List Int) (w : World) (hv : Byt w v xs) (ht : Byt w tv tab) (hl : tab.length = 256) (hmax : xs.length ≤ 1048576) :
    Calls Try.prog 31 #[v, tv] w fun e w' => ∃ v', e = .returned v' ∧ Byt w' v' (looked tab xs) ∧ Below w.heap.size w w' := by
  obtain ⟨ao, ca, rfl, ha1, ha2, ha3, -, ha5⟩ := hv
  obtain ⟨to_, ta, rfl, ht1, ht2, ht3, -, ht5⟩ := ht
  rw [hl] at ht1 ht5 ⊢
  obtain ⟨tb, tf, rfl, htc⟩ := ht5 (by omega)
  have HA5 : Hid (0 < xs.length → ∃ b off, ao = some ⟨b, off, none⟩ ∧ ∀ t, t < xs.length → w.cell? ⟨b, off + t, none⟩ = some (.int .u8 (gb xs t))) := ha5
  have HA : Hid (AllB xs) := ha3
  have HT : Hid (∀ t, t < 256 → w.cell? ⟨tb, tf + t, none⟩ = some (.int .u8 (gb tab t))) := htc
  have htw : tb < w.heap.size := World.block_lt_of_cell? w _ (htc 0 (by omega))
  have HZ : Hid ((looked tab xs).length = xs.length) := looked_len tab xs
  have HG : Hid (∀ k, k < xs.length → (looked tab xs).take (k + 1) = (looked tab xs).take k ++ [gb tab (gb xs k).toNat]) := fun k hk => by
    rw [take_snoc_gb _ k (by rw [looked_len]; exact hk), looked_gb tab xs k hk]
  have HZA : Hid (AllB (looked tab xs)) := looked_all tab xs ht3
  generalize looked tab xs = zs at *
  clear ha5 ha3 ht3 ht5 htc hl
  go_enter Try.func31, Try.ntmps31
  go_wp2
  go_loopw [5, 6] (fun v i wr => ∃ k : Nat, k ≤ xs.length ∧ i = .int .i64 k ∧ Own w.heap.size wr v (zs.take k) ∧ Below w.heap.size w wr) (fun _ i _ => xs.length - (intOf i).toNat)
  case atStart => exact ⟨0, Nat.zero_le _, rfl, Own.empty w (Nat.le_refl _), (Below.refl _ _).alloc (Nat.le_refl _) _⟩
  case round =>
    obtain ⟨k, hk, rfl, hown, hbel⟩ := hrel
    have hsz := hbel.size
    have k0 : (0 : Int) ≤ (k : Int) := by omega
    by_cases hlt : k < xs.length
    · obtain ⟨b, off, rfl, hca⟩ := HA5.out (by omega)
      have n1 := World.block_lt_of_cell? w _ (hca k hlt)
      have c1 : wr.cell? ⟨b, off + k, none⟩ = some (.int .u8 (gb xs k)) := (hbel.cell n1).trans (hca k hlt)
      obtain ⟨x, hx⟩ : ∃ x : Nat, gb xs k = (x : Int) := ⟨(gb xs k).toNat, by have := HA.out k; omega⟩
      have hx8 : x < 256 := by have := HA.out k; omega
      rw [hx] at c1
      have c2 : wr.cell? ⟨tb, tf + x, none⟩ = some (.int .u8 (gb tab x)) := (hbel.cell htw).trans (HT.out x hx8)
      have SN : Hid (zs.take (k + 1) = zs.take k ++ [gb tab x]) := by
        have := HG.out k hlt
        rw [hx, Int.toNat_natCast] at this
        exact this
      have lk : (k : Int) < (xs.length : Int) := by omega
      have x0 : (0 : Int) ≤ (x : Int) := by omega
      have x1 : (x : Int) < 256 := by omega
      have LN : Hid ((zs.take k).length ≤ 1099511627776) := by show _ ≤ _; rw [List.length_take, HZ.out]; omega
      have HO : Hid (Own w.heap.size wr u5 (zs.take k)) := hown
      clear hca hx hx8 hown
      generalize gb tab x = y at *
      go_wp2_with (at_builtin; refine push_law wr rfl (.tmp 14) (.tmp 22) rfl w.heap.size (by omega) _ _ y rfl rfl HO.out LN.out ?_; intro v' w1 hown' hbel')
      rw [← SN.out] at hown'
      go_roundw
      case rel => exact ⟨k + 1, by omega, by go_num, hown', hbel.trans hbel'⟩
      case measure => simp [intOf]; omega
    · have hks : k = xs.length := by omega
      rw [List.take_of_length_le (by rw [HZ.out]; omega)] at hown
      go_wp2
      go_ret
      exact ⟨_, rfl, hown.byt HZA.out, hbel⟩
end Go.Proofs.Ytijadglmbopboaa

