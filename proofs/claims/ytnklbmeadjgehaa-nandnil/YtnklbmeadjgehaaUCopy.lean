/- What slices.Clone of faults and fault's Copy answer: all in new memory. No claim of its own. -/
import Derived.Test.YtnklbmeadjgehaaUAt
namespace Go.Proofs.Ytnklbmeadjgehaa.fa
open Go.RowKit
set_option maxRecDepth 20000

theorem info_fault : (Try.prog.info? 67).map (fun i => (i.zero, i.size, i.bytes)) = some (some (fv f0), 3, 40) := by kernel_rfl
/-- the cells of all faults -/
def fls (fs : List (Int × Bool × Value)) : List Value := fs.flatMap fl
theorem fls_len (fs : List (Int × Bool × Value)) : (fls fs).length = fs.length * 3 := by
  induction fs with
  | nil => rfl
  | cons f fs ih => simp only [fls, List.flatMap_cons, List.length_append] at ih ⊢; rw [ih, List.length_cons]; simp [fl]; omega
theorem fls_get (fs : List (Int × Bool × Value)) : ∀ (t i : Nat), t < fs.length → i < 3 → (fls fs)[t * 3 + i]? = (fl (gf fs t))[i]? := by
  induction fs with
  | nil => intro t i h; simp at h
  | cons f fs ih =>
    intro t i ht hi
    have hl : (fl f).length = 3 := rfl
    simp only [fls, List.flatMap_cons]
    match t, ht with
    | 0, _ => rw [List.getElem?_append_left (by omega), Nat.zero_mul, Nat.zero_add]; rfl
    | t + 1, ht =>
      rw [List.getElem?_append_right (by omega), hl, show (t + 1) * 3 + i - 3 = t * 3 + i by omega]
      have := ih t i (by simpa using ht) hi
      simpa [fls, gf] using this
theorem fls_one (fs : List (Int × Bool × Value)) (h : ∀ t, t < fs.length → (gf fs t).2.2.oneCell' = true) : ∀ u ∈ fls fs, u.oneCell' = true := by
  intro u hu
  obtain ⟨f, hf, hu⟩ := List.mem_flatMap.1 hu
  obtain ⟨t, ht, rfl⟩ := List.getElem_of_mem hf
  have := h t ht
  have e : gf fs t = fs[t] := by simp [gf, List.getD, ht]
  rw [e] at this
  simp [fl] at hu
  rcases hu with rfl | rfl | rfl
  · rfl
  · rfl
  · exact this

/-- v owns the faults fs, in a block from B on -/
def OwnF (B : Nat) (w : World) (v : Value) (fs : List (Int × Bool × Value)) : Prop := w.ownsRow B 67 3 v fs.length (fls fs)

/-- 'append(s, x...)' of faults, s empty and of the call's own -/
theorem pushF_law {ops : Array Oper} {rest : List Oper} {o : Oper} {a : Act} {Q : Exit → Act → World → Prop} (w : World) (hg : o.guard = none) (s x : Operand) (hop : o.op = .call { callee := .builtin .append, args := #[s, x], argTypes := #[24, 24] })
    (B : Nat) (hB : B ≤ w.heap.size) (v vy : Value) (fs : List (Int × Bool × Value)) (ad : Addr) (cap : Nat) (hs : a.eval s = v) (hx : a.eval x = vy) (hown : w.ownsRow B 67 3 v 0 []) (hy : vy = .slice (some ad) fs.length cap)
    (h6 : ∀ j u, (fls fs)[j]? = some u → w.cell? (ad.add j) = some u) (h1 : ∀ u ∈ fls fs, u.oneCell' = true) (hn : fs.length ≤ 100)
    (hK : ∀ v' w', OwnF B w' v' fs → Below B w w' → wpList Try.prog ops Q rest (a.put o.dst v') w') :
    wpList Try.prog ops Q (o :: rest) a w := by
  obtain ⟨i0, hi, hz0, hz1, hz2⟩ := info_parts info_fault
  subst hy
  refine wpList_append_own _ hg s x 24 hop B 67 i0 (fv f0) 3 40 Try.underlying24 hi hz0 hz1 hz2 rfl (by decide) v 0 [] hs hown ad fs.length cap (fls fs) hx (fls_len fs) h6 h1 (by simp only [maxLen]; omega) (by omega) hB fun v' w' O1 G1 _ => ?_
  rw [List.nil_append, Nat.zero_add] at O1
  exact hK v' w' O1 ((Below.refl B w).grown G1 hB fun k hk => (World.ownsRow.lt hown k hk).1)

set_option maxHeartbeats 1000000 in
theorem cloneF_any (v : Value) (fs : List (Int × Bool × Value)) (w : World) (h : Fls w v fs) (ho : ∀ t, t < fs.length → (gf fs t).2.2.oneCell' = true) (hl : fs.length ≤ 100) :
    Calls Try.prog 59 #[v] w fun e w' => ∃ v', e = .returned v' ∧ OwnF w.heap.size w' v' fs ∧ Below w.heap.size w w' := by
  have H1 : Hid (∀ u ∈ fls fs, u.oneCell' = true) := fls_one fs ho
  obtain ⟨ao, cap, rfl, h1, h2, h4, h5⟩ := h
  clear ho
  cases ao with
  | none =>
    have hc := h4 rfl
    subst hc
    have e : fs = [] := List.eq_nil_of_length_eq_zero (by omega)
    subst e
    have qn : ∀ w : World, (binOp .eql 24 (.slice none 0 0) (.slice none 0 0)).run Try.prog w = .ok (.bool true) w := fun w => Lib.run_eql_slice_nil w _ _ none 0 0 0 0 Try.underlying24
    clear h1 h2 h4 h5 H1
    go_enter Try.func59, Try.ntmps59
    go_wp2
    go_ret
    exact ⟨_, rfl, ⟨rfl, Or.inl ⟨rfl, rfl⟩⟩, Below.refl _ _⟩
  | some ad =>
    have H5 : Hid (∀ j u, (fls fs)[j]? = some u → w.cell? (ad.add j) = some u) := fun j u hj => by
      have hjl : j < fs.length * 3 := by rw [← fls_len]; exact (List.getElem?_eq_some_iff.1 hj).1
      obtain ⟨b, off, e, hc⟩ := h5 (by omega)
      cases e
      have e2 : j = j / 3 * 3 + j % 3 := by omega
      rw [e2, fls_get fs (j / 3) (j % 3) (by omega) (by omega)] at hj
      have := (hc (j / 3) (by omega)).range (j % 3) u hj
      rw [Addr.add_mid, show off + j = off + j / 3 * 3 + j % 3 by omega]
      exact this
    have HO : Hid ((w.alloc (.cells #[] 67)).ownsRow w.heap.size 67 3 (.slice (some ⟨w.heap.size, 0, none⟩) 0 0) 0 []) := World.ownsRow_made w #[] 0 (Nat.le_refl _) (by simp [maxLen]) (by simp)
    have B0 : Below w.heap.size w (w.alloc (.cells #[] 67)) := (Below.refl _ _).alloc (Nat.le_refl _) _
    have H6 : Hid (∀ j u, (fls fs)[j]? = some u → (w.alloc (.cells #[] 67)).cell? (ad.add j) = some u) := fun j u hj => by
      have := H5.out j u hj
      rw [B0.cell (World.block_lt_of_cell? w _ this)]
      exact this
    have z0 := B0.size
    have qn : ∀ w : World, (binOp .eql 24 (.slice (some ad) fs.length cap) (.slice none 0 0)).run Try.prog w = .ok (.bool false) w := fun w => Lib.run_eql_slice_nil w _ _ (some ad) fs.length cap 0 0 Try.underlying24
    clear h4 h5
    go_enter Try.func59, Try.ntmps59
    go_wp2_with (refine pushF_law _ rfl (.tmp 5) (.tmp 6) rfl w.heap.size z0 _ _ fs ad cap rfl rfl HO.out rfl H6.out H1.out hl ?_; intro v1 w1 O1 b1; have HO1 : Hid (OwnF w.heap.size w1 v1 fs) := O1; have C1 : Below w.heap.size w w1 := B0.trans b1; clear O1 b1)
    go_ret
    exact ⟨_, rfl, HO1.out, C1⟩

/-- of n faults in the row g the first k are copies of fs (their masks in memory from B on), the others are those of fs -/
def Cop (B : Nat) (w : World) (g n k : Nat) (fs gs : List (Int × Bool × Value)) (ms : Nat → List Int) : Prop :=
  gs.length = n ∧ (∀ t, t < n → FlA w g (t * 3) (gf gs t)) ∧ (∀ t, t < n → w.there g (t * 3) 3) ∧
    (∀ t, t < k → t < n → (gf gs t).1 = (gf fs t).1 ∧ (gf gs t).2.1 = (gf fs t).2.1 ∧ Bow B w (gf gs t).2.2 (ms t)) ∧ (∀ t, k ≤ t → t < n → gf gs t = gf fs t)
theorem there_heap {w w' : World} {b p n : Nat} (h : w.there b p n) (e : w'.heap[b]? = w.heap[b]?) : w'.there b p n := fun j hj => by
  rw [World.cell?_of_block (w := w) (w' := w') (a := ⟨b, p + j, none⟩) e, World.frozen?_of_block (w := w) (w' := w') (a := ⟨b, p + j, none⟩) e]
  exact h j hj
theorem Cop.below {B : Nat} {w w' : World} {g n k : Nat} {fs gs : List (Int × Bool × Value)} {ms : Nat → List Int} (h : Cop B w g n k fs gs ms) (hb : Below w.heap.size w w') : Cop B w' g n k fs gs ms := by
  obtain ⟨h1, h2, h3, h4, h5⟩ := h
  exact ⟨h1, fun t ht => (h2 t ht).below hb (h2 t ht).lt, fun t ht => there_heap (h3 t ht) (hb.block g (h2 t ht).lt), fun t a b => ⟨(h4 t a b).1, (h4 t a b).2.1, (h4 t a b).2.2.below hb⟩, h5⟩
theorem gf_set (gs : List (Int × Bool × Value)) (k t : Nat) (f : Int × Bool × Value) (hk : k < gs.length) : gf (gs.set k f) t = if t = k then f else gf gs t := by
  unfold gf
  rw [List.getD_eq_getElem?_getD, List.getD_eq_getElem?_getD, List.getElem?_set]
  by_cases e : k = t
  · subst e; simp [hk]
  · rw [if_neg e, if_neg (Ne.symm e)]
theorem Cop.step {B : Nat} {w : World} {g n k : Nat} {fs gs : List (Int × Bool × Value)} {ms : Nat → List Int} (h : Cop B w g n k fs gs ms) (hk : k < n) (hu : ∀ t, t < n → ∀ x, (gf fs t).2.2 ≠ .int .u8 x) (m : Value) (hm : Bow B w m (ms k)) :
    Cop B (w.setCells g (k * 3) (fl ((gf fs k).1, (gf fs k).2.1, m))) g n (k + 1) fs (gs.set k ((gf fs k).1, (gf fs k).2.1, m)) ms := by
  obtain ⟨h1, h2, h3, h4, h5⟩ := h
  have hs := h5 k (Nat.le_refl _) hk
  have hf := h2 k hk
  rw [hs] at hf
  have hnu := hu k hk
  refine ⟨by rw [List.length_set]; exact h1, fun t ht => ?_, fun t ht => World.there_setCells (h3 t ht) _ _ _, fun t ht htn => ?_, fun t ht htn => ?_⟩
  · rw [gf_set gs k t _ (by omega)]
    by_cases e : t = k
    · subst e
      rw [if_pos rfl]
      exact FlA.of (World.rangeAt_setCells_same w g (t * 3) _ (h3 t ht))
    · rw [if_neg e]
      exact FlA.of (World.rangeAt_setCells_apart (h2 t ht).range g (k * 3) _ (by right; simp only [fl, List.length_cons, List.length_nil]; omega))
  · rw [gf_set gs k t _ (by omega)]
    by_cases e : t = k
    · subst e
      rw [if_pos rfl]
      exact ⟨rfl, rfl, bow_cells hf hnu hm⟩
    · rw [if_neg e]
      have := h4 t (by omega) htn
      exact ⟨this.1, this.2.1, bow_cells hf hnu this.2.2⟩
  · rw [gf_set gs k t _ (by omega), if_neg (by omega)]
    exact h5 t (by omega) htn
theorem own_cop {B : Nat} {w : World} {v : Value} {fs : List (Int × Bool × Value)} (h : OwnF B w v fs) (ms : Nat → List Int) : ∃ ao cap g, v = .slice ao fs.length cap ∧ fs.length ≤ cap ∧ cap ≤ 9223372036854775807 ∧ (ao = none → cap = 0) ∧ (0 < fs.length → ao = some ⟨g, 0, none⟩ ∧ B ≤ g) ∧ Cop B w g fs.length 0 fs fs ms := by
  have hx := h
  rcases h.2 with ⟨rfl, hn⟩ | ⟨g, cap, cur, rfl, hg, hh, hc, hm, hs, ht⟩
  · refine ⟨none, 0, 0, by rw [hn], by omega, by omega, fun _ => rfl, fun hp => by omega, rfl, fun t ht => by omega, fun t ht => by omega, fun t ht => by omega, fun t _ ht => by omega⟩
  · refine ⟨some ⟨g, 0, none⟩, cap, g, rfl, hc, by simpa [maxLen] using hm, (by intro e; cases e), fun _ => ⟨rfl, hg⟩, rfl, fun t ht => ?_, fun t ht j hj => ?_, fun t ht => by omega, fun t _ ht => rfl⟩
    · refine FlA.of fun j u hj => ?_
      have hj3 : j < 3 := (List.getElem?_eq_some_iff.1 hj).1
      rw [hx.cellAt (t * 3 + j) (by omega), fls_get fs t j ht hj3]
      exact hj
    · refine ⟨?_, hx.frozenAt _⟩
      rw [hx.cellAt (t * 3 + j) (by omega), fls_get fs t j ht hj]
      have : j = 0 ∨ j = 1 ∨ j = 2 := by omega
      rcases this with rfl | rfl | rfl <;> rfl

/-- what Copy answers: copies of the faults, in memory from B on -/
def CopyIs (B : Nat) (fs : List (Int × Bool × Value)) (ms : Nat → List Int) (v : Value) (w : World) : Prop := ∃ gs cap g ao, v = .slice ao fs.length cap ∧ fs.length ≤ cap ∧ cap ≤ 9223372036854775807 ∧ (ao = none → cap = 0) ∧ (0 < fs.length → ao = some ⟨g, 0, none⟩ ∧ B ≤ g) ∧ Cop B w g fs.length fs.length fs gs ms

set_option maxHeartbeats 4000000 in
theorem copy_any (v : Value) (fs : List (Int × Bool × Value)) (ms : Nat → List Int) (w : World) (h : Fls w v fs) (hm : Mks w fs ms) (hl : fs.length ≤ 100) :
    Calls Try.prog 35 #[v] w fun e w' => ∃ v', e = .returned v' ∧ CopyIs w.heap.size fs ms v' w' ∧ Below w.heap.size w w' := by
  have HM : Hid (Mks w fs ms) := hm
  have HU : Hid (∀ t, t < fs.length → ∀ x, (gf fs t).2.2 ≠ .int .u8 x) := fun t ht => byt_no_u8 (hm t ht).1
  have SC : Hid (Calls Try.prog 59 #[v] w fun e w' => ∃ v', e = .returned v' ∧ OwnF w.heap.size w' v' fs ∧ Below w.heap.size w w') := cloneF_any v fs w h (fun t ht => byt_one_cell (hm t ht).1) hl
  clear h hm
  go_enter Try.func35, Try.ntmps35
  go_wp2_with (go_at_call 59; refine SC.out.mono ?_; rintro e w1 ⟨v1, rfl, y1, B1⟩; obtain ⟨ao, cap, g, rfl, a1, a2, a3, a4, a5⟩ := own_cop y1 ms; have HA : Hid ((ao = none → cap = 0) ∧ (0 < fs.length → ao = some ⟨g, 0, none⟩ ∧ w.heap.size ≤ g)) := ⟨a3, a4⟩; have HC1 : Hid (Cop w.heap.size w1 g fs.length 0 fs fs ms) := a5; have HB1 : Hid (Below w.heap.size w w1) := B1; clear y1 a3 a4 a5 B1)
  go_loopw [10] (fun i wr => ∃ k : Nat, k ≤ fs.length ∧ i = .int .i64 k ∧ Hid (∃ gs, Cop w.heap.size wr g fs.length k fs gs ms) ∧ Hid (Below w.heap.size w wr)) (fun i _ => fs.length - (intOf i).toNat)
  case atStart => exact ⟨0, Nat.zero_le _, rfl, ⟨fs, HC1.out⟩, HB1⟩
  case round =>
    obtain ⟨k, hk, rfl, HC, HB⟩ := hrel
    obtain ⟨wa, rfl⟩ : ∃ wx, wx = wr := ⟨_, rfl⟩
    obtain ⟨gs, hcop⟩ := HC.out
    have HCa : Hid (Cop w.heap.size wa g fs.length k fs gs ms) := hcop
    clear HC hcop
    have k0 : (0 : Int) ≤ (k : Int) := by omega
    by_cases hlt : k < fs.length
    · have k1 : (k : Int) < (fs.length : Int) := by omega
      obtain ⟨hao, hgB⟩ := HA.out.2 (by omega)
      have HG : Hid (w.heap.size ≤ g) := hgB
      have HAO : Hid (ao = some ⟨g, 0, none⟩) := hao
      subst hao
      obtain ⟨x, cr, mo, mc, hf⟩ := split_flt HM.out hlt
      have hfa := HCa.out.2.1 k hlt
      rw [HCa.out.2.2.2.2 k (Nat.le_refl _) hlt, hf] at hfa
      have HF : Hid (FlA wa g (k * 3) (x, cr, .slice mo (ms k).length mc)) := hfa
      have lg : g < wa.heap.size := hfa.lt
      have HE : Hid (((gf fs k).1, (gf fs k).2.1) = (x, cr)) := by show _ = _; rw [hf]
      have HY : Hid (Byt w (.slice mo (ms k).length mc) (ms k) ∧ (ms k).length ≤ 140737488355328) := by have := HM.out k hlt; rw [hf] at this; exact this
      have S : Hid (∀ w0, Below w.heap.size w w0 → Calls Try.prog 60 #[fv (x, cr, .slice mo (ms k).length mc)] w0 fun e w' => ∃ m', e = .returned (fv (x, cr, m')) ∧ Bow w0.heap.size w' m' (ms k) ∧ Below w0.heap.size w0 w') := fun w0 hb => copyOf_any (x, cr, .slice mo (ms k).length mc) (ms k) w0 (HY.out.1.below hb) HY.out.2
      clear hf hfa hgB
      have t1 : (1 : Nat) = 1 := rfl
      go_wp2_with (first
        | (have q5 := t5; refine store_lawV _ (x, cr, .slice ao6 (ms k).length cap6) g (k * 3) rfl rfl T6.out rfl ?_; intro w7 E7 A7 T7 B7; have HE7 : Hid (w7 = w6.setCells g (k * 3) (fl (x, cr, .slice ao6 (ms k).length cap6))) := E7; have HB7 : Hid (Below w.heap.size w w7) := B6'.out.trans (B7.mono HG.out); clear E7 A7 T7 B7 t5)
        | (have q4 := t4; go_at_call 60; refine (S.out _ BB.out).mono ?_; rintro e w6 ⟨m6, rfl, y6, B6⟩; obtain ⟨ao6, cap6, rfl⟩ := byt_form y6.1
           have Y6 : Hid (Bow w.heap.size w6 (.slice ao6 (ms k).length cap6) (ms k)) := y6.mono BB.out.size
           have HC6 : Hid (Cop w.heap.size w6 g fs.length k fs gs ms) := HC3.out.below B6
           have T6 : Hid (w6.there g (k * 3) 3) := HC6.out.2.2.1 k hlt
           have B6' : Hid (Below w.heap.size w w6) := BB.out.trans (B6.mono BB.out.size)
           clear y6 t4 B6; have t5 : (5 : Nat) = 5 := rfl)
        | (have q4 := t3; refine load_lawS _ (by rfl) _ _ rfl (load_fault HA3.out) ?_; clear t3; have t4 : (4 : Nat) = 4 := rfl)
        | (have q2 := t2'; refine store_lawV _ (x, cr, .slice mo (ms k).length mc) wa.heap.size 0 rfl rfl HV2.out.2 rfl ?_; intro w3 E3 A3 T3 B3; have HA3 : Hid (FlA w3 wa.heap.size 0 (x, cr, .slice mo (ms k).length mc)) := A3; have BA : Below wa.heap.size wa w3 := B2.trans B3; have HC3 : Hid (Cop w.heap.size w3 g fs.length k fs gs ms) := HCa.out.below BA; have BB : Hid (Below w.heap.size w w3) := HB.out.trans (BA.mono HB.out.size); clear A3 T3 E3 BA B2 B3 t2'; have t3 : (3 : Nat) = 3 := rfl)
        | (have q1 := t2; refine new_lawV _ ?_; intro w2 V2 B2 l2; have HV2 : Hid (FlV w2 wa.heap.size f0) := V2; clear V2 t2; have t2' : (2 : Nat) = 2 := rfl)
        | (have q0 := t1; refine load_lawS _ (by rfl) _ _ rfl (load_fault HF.out) ?_; clear t1; have t2 : (2 : Nat) = 2 := rfl))
      have HC7 : Hid (∃ gs, Cop w.heap.size w7 g fs.length (k + 1) fs gs ms) := by
        have st := HC6.out.step hlt HU.out (.slice ao6 (ms k).length cap6) Y6.out
        have e1 : (gf fs k).1 = x := congrArg Prod.fst HE.out
        have e2 : (gf fs k).2.1 = cr := congrArg Prod.snd HE.out
        rw [e1, e2, ← HE7.out] at st
        exact ⟨_, st⟩
      go_roundw
      case rel => exact ⟨k + 1, by omega, by go_num, HC7, HB7⟩
      case measure => simp [intOf]; omega
    · have e : k = fs.length := by omega
      have HR : Hid (CopyIs w.heap.size fs ms (.slice ao fs.length cap) wa) := ⟨gs, cap, g, ao, rfl, a1, a2, HA.out.1, HA.out.2, by have := HCa.out; rw [e] at this; exact this⟩
      go_wp2
      go_ret
      exact ⟨_, rfl, HR.out, HB.out⟩
end Go.Proofs.Ytnklbmeadjgehaa.fa
