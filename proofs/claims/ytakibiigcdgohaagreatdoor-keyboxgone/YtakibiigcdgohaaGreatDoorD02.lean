/- Parts of the proof: what KeyboxGone reaches. No claim of its own. -/
import Derived.Deep.WholeRow
import Derived.Deep.MidRow
import Derived.Laws.StructEq
import Derived.WalkKit
import Derived.Deep.QuietTactic
import Derived.Laws.AppendOwnNone
import Derived.Deep.RegionHeld3
import Derived.WalkSmall
import Derived.ProofKit
import Derived.OpenShut
import Derived.BigQuiet
import Derived.Lib.SliceRun
import Derived.Test.YtakibiigcdgohaaGreatDoorD00
import Derived.Test.YtakibiigcdgohaaGreatDoorD01
set_option maxHeartbeats 8000000
namespace Go.Proofs.YtakibiigcdgohaaGreatDoor.fa
open Go.RowKit
set_option maxRecDepth 20000
theorem info_fault : (Tryz.prog.info? 63).map (fun i => (i.zero, i.size, i.bytes)) = some (some (fv f0), 3, 40) := by kernel_rfl
def fls (fs : List (Int × Bool × Value)) : List Value := fs.flatMap fl
theorem fls_len (fs : List (Int × Bool × Value)) : (fls fs).length = fs.length * 3 := by
  induction fs with
  | nil => rfl
  | cons f fs ih => simp only [fls, List.flatMap_cons, List.length_append] at ih ⊢; rw [ih, List.length_cons]; simp [fl]; omega
theorem fls_get (fs : List (Int × Bool × Value)) : ∀ (t i : Nat), t < fs.length → i < 3 → (fls fs)[t * 3 + i]? = (fl (gf fs t))[i]? := by
  induction fs with
  | nil => intro t i h; simp at h
  | cons f fs ih =>
    intro t i ht hi
    have hl : (fl f).length = 3 := rfl
    simp only [fls, List.flatMap_cons]
    match t, ht with
    | 0, _ => rw [List.getElem?_append_left (by omega), Nat.zero_mul, Nat.zero_add]; rfl
    | t + 1, ht =>
      rw [List.getElem?_append_right (by omega), hl, show (t + 1) * 3 + i - 3 = t * 3 + i by omega]
      have := ih t i (by simpa using ht) hi
      simpa [fls, gf] using this
theorem fls_one (fs : List (Int × Bool × Value)) (h : ∀ t, t < fs.length → (gf fs t).2.2.oneCell' = true) : ∀ u ∈ fls fs, u.oneCell' = true := by
  intro u hu
  obtain ⟨f, hf, hu⟩ := List.mem_flatMap.1 hu
  obtain ⟨t, ht, rfl⟩ := List.getElem_of_mem hf
  have := h t ht
  have e : gf fs t = fs[t] := by simp [gf, List.getD, ht]
  rw [e] at this
  simp [fl] at hu
  rcases hu with rfl | rfl | rfl
  · rfl
  · rfl
  · exact this
def OwnF (B : Nat) (w : World) (v : Value) (fs : List (Int × Bool × Value)) : Prop := w.ownsRow B 63 3 v fs.length (fls fs)
theorem pushF_law {ops : Array Oper} {rest : List Oper} {o : Oper} {a : Act} {Q : Exit → Act → World → Prop} (w : World) (hg : o.guard = none) (s x : Operand) (hop : o.op = .call { callee := .builtin .append, args := #[s, x], argTypes := #[24, 24] })
    (B : Nat) (hB : B ≤ w.heap.size) (v vy : Value) (fs : List (Int × Bool × Value)) (ad : Addr) (cap : Nat) (hs : a.eval s = v) (hx : a.eval x = vy) (hown : w.ownsRow B 63 3 v 0 []) (hy : vy = .slice (some ad) fs.length cap)
    (h6 : ∀ j u, (fls fs)[j]? = some u → w.cell? (ad.add j) = some u) (h1 : ∀ u ∈ fls fs, u.oneCell' = true) (hn : fs.length ≤ 100)
    (hK : ∀ v' w', OwnF B w' v' fs → Below B w w' → wpList Tryz.prog ops Q rest (a.put o.dst v') w') :
    wpList Tryz.prog ops Q (o :: rest) a w := by
  obtain ⟨i0, hi, hz0, hz1, hz2⟩ := info_parts info_fault
  subst hy
  refine wpList_append_own _ hg s x 24 hop B 63 i0 (fv f0) 3 40 Tryz.underlying24 hi hz0 hz1 hz2 rfl (by decide) v 0 [] hs hown ad fs.length cap (fls fs) hx (fls_len fs) h6 h1 (by simp only [maxLen]; omega) (by omega) hB fun v' w' O1 G1 _ => ?_
  rw [List.nil_append, Nat.zero_add] at O1
  exact hK v' w' O1 ((Below.refl B w).grown G1 hB fun k hk => (World.ownsRow.lt hown k hk).1)
theorem cloneF_any (v : Value) (fs : List (Int × Bool × Value)) (w : World) (h : Fls w v fs) (ho : ∀ t, t < fs.length → (gf fs t).2.2.oneCell' = true) (hl : fs.length ≤ 100) :
    Calls Tryz.prog 58 #[v] w fun e w' => ∃ v', e = .returned v' ∧ OwnF w.heap.size w' v' fs ∧ Below w.heap.size w w' := by
  have H1 : Hid (∀ u ∈ fls fs, u.oneCell' = true) := fls_one fs ho
  obtain ⟨ao, cap, rfl, h1, h2, h4, h5⟩ := h
  clear ho
  cases ao with
  | none =>
    have hc := h4 rfl
    subst hc
    have e : fs = [] := List.eq_nil_of_length_eq_zero (by omega)
    subst e
    have qn : ∀ w : World, (binOp .eql 24 (.slice none 0 0) (.slice none 0 0)).run Tryz.prog w = .ok (.bool true) w := fun w => Lib.run_eql_slice_nil w _ _ none 0 0 0 0 Tryz.underlying24
    clear h1 h2 h4 h5 H1
    go_enter Tryz.func58, Tryz.ntmps58
    go_wp2
    go_ret
    exact ⟨_, rfl, ⟨rfl, Or.inl ⟨rfl, rfl⟩⟩, Below.refl _ _⟩
  | some ad =>
    have H5 : Hid (∀ j u, (fls fs)[j]? = some u → w.cell? (ad.add j) = some u) := fun j u hj => by
      have hjl : j < fs.length * 3 := by rw [← fls_len]; exact (List.getElem?_eq_some_iff.1 hj).1
      obtain ⟨b, off, e, hc⟩ := h5 (by omega)
      cases e
      have e2 : j = j / 3 * 3 + j % 3 := by omega
      rw [e2, fls_get fs (j / 3) (j % 3) (by omega) (by omega)] at hj
      have := (hc (j / 3) (by omega)).range (j % 3) u hj
      rw [Addr.add_mid, show off + j = off + j / 3 * 3 + j % 3 by omega]
      exact this
    have HO : Hid ((w.alloc (.cells #[] 63)).ownsRow w.heap.size 63 3 (.slice (some ⟨w.heap.size, 0, none⟩) 0 0) 0 []) := World.ownsRow_made w #[] 0 (Nat.le_refl _) (by simp [maxLen]) (by simp)
    have B0 : Below w.heap.size w (w.alloc (.cells #[] 63)) := (Below.refl _ _).alloc (Nat.le_refl _) _
    have H6 : Hid (∀ j u, (fls fs)[j]? = some u → (w.alloc (.cells #[] 63)).cell? (ad.add j) = some u) := fun j u hj => by
      have := H5.out j u hj
      rw [B0.cell (World.block_lt_of_cell? w _ this)]
      exact this
    have z0 := B0.size
    have qn : ∀ w : World, (binOp .eql 24 (.slice (some ad) fs.length cap) (.slice none 0 0)).run Tryz.prog w = .ok (.bool false) w := fun w => Lib.run_eql_slice_nil w _ _ (some ad) fs.length cap 0 0 Tryz.underlying24
    clear h4 h5
    go_enter Tryz.func58, Tryz.ntmps58
    go_wp2_with (refine pushF_law _ rfl (.tmp 5) (.tmp 6) rfl w.heap.size z0 _ _ fs ad cap rfl rfl HO.out rfl H6.out H1.out hl ?_; intro v1 w1 O1 b1; have HO1 : Hid (OwnF w.heap.size w1 v1 fs) := O1; have C1 : Below w.heap.size w w1 := B0.trans b1; clear O1 b1)
    go_ret
    exact ⟨_, rfl, HO1.out, C1⟩
def Cop (B : Nat) (w : World) (g n k : Nat) (fs gs : List (Int × Bool × Value)) (ms : Nat → List Int) : Prop :=
  gs.length = n ∧ (∀ t, t < n → FlA w g (t * 3) (gf gs t)) ∧ (∀ t, t < n → w.there g (t * 3) 3) ∧
    (∀ t, t < k → t < n → (gf gs t).1 = (gf fs t).1 ∧ (gf gs t).2.1 = (gf fs t).2.1 ∧ Bow B w (gf gs t).2.2 (ms t)) ∧ (∀ t, k ≤ t → t < n → gf gs t = gf fs t)
theorem there_heap {w w' : World} {b p n : Nat} (h : w.there b p n) (e : w'.heap[b]? = w.heap[b]?) : w'.there b p n := fun j hj => by
  rw [World.cell?_of_block (w := w) (w' := w') (a := ⟨b, p + j, none⟩) e, World.frozen?_of_block (w := w) (w' := w') (a := ⟨b, p + j, none⟩) e]
  exact h j hj
theorem Cop.below {B : Nat} {w w' : World} {g n k : Nat} {fs gs : List (Int × Bool × Value)} {ms : Nat → List Int} (h : Cop B w g n k fs gs ms) (hb : Below w.heap.size w w') : Cop B w' g n k fs gs ms := by
  obtain ⟨h1, h2, h3, h4, h5⟩ := h
  exact ⟨h1, fun t ht => (h2 t ht).below hb (h2 t ht).lt, fun t ht => there_heap (h3 t ht) (hb.block g (h2 t ht).lt), fun t a b => ⟨(h4 t a b).1, (h4 t a b).2.1, (h4 t a b).2.2.below hb⟩, h5⟩
theorem gf_set (gs : List (Int × Bool × Value)) (k t : Nat) (f : Int × Bool × Value) (hk : k < gs.length) : gf (gs.set k f) t = if t = k then f else gf gs t := by
  unfold gf
  rw [List.getD_eq_getElem?_getD, List.getD_eq_getElem?_getD, List.getElem?_set]
  by_cases e : k = t
  · subst e; simp [hk]
  · rw [if_neg e, if_neg (Ne.symm e)]
theorem Cop.step {B : Nat} {w : World} {g n k : Nat} {fs gs : List (Int × Bool × Value)} {ms : Nat → List Int} (h : Cop B w g n k fs gs ms) (hk : k < n) (hu : ∀ t, t < n → ∀ x, (gf fs t).2.2 ≠ .int .u8 x) (m : Value) (hm : Bow B w m (ms k)) :
    Cop B (w.setCells g (k * 3) (fl ((gf fs k).1, (gf fs k).2.1, m))) g n (k + 1) fs (gs.set k ((gf fs k).1, (gf fs k).2.1, m)) ms := by
  obtain ⟨h1, h2, h3, h4, h5⟩ := h
  have hs := h5 k (Nat.le_refl _) hk
  have hf := h2 k hk
  rw [hs] at hf
  have hnu := hu k hk
  refine ⟨by rw [List.length_set]; exact h1, fun t ht => ?_, fun t ht => World.there_setCells (h3 t ht) _ _ _, fun t ht htn => ?_, fun t ht htn => ?_⟩
  · rw [gf_set gs k t _ (by omega)]
    by_cases e : t = k
    · subst e
      rw [if_pos rfl]
      exact FlA.of (World.rangeAt_setCells_same w g (t * 3) _ (h3 t ht))
    · rw [if_neg e]
      exact FlA.of (World.rangeAt_setCells_apart (h2 t ht).range g (k * 3) _ (by right; simp only [fl, List.length_cons, List.length_nil]; omega))
  · rw [gf_set gs k t _ (by omega)]
    by_cases e : t = k
    · subst e
      rw [if_pos rfl]
      exact ⟨rfl, rfl, bow_cells hf hnu hm⟩
    · rw [if_neg e]
      have := h4 t (by omega) htn
      exact ⟨this.1, this.2.1, bow_cells hf hnu this.2.2⟩
  · rw [gf_set gs k t _ (by omega), if_neg (by omega)]
    exact h5 t (by omega) htn
theorem own_cop {B : Nat} {w : World} {v : Value} {fs : List (Int × Bool × Value)} (h : OwnF B w v fs) (ms : Nat → List Int) : ∃ ao cap g, v = .slice ao fs.length cap ∧ fs.length ≤ cap ∧ cap ≤ 9223372036854775807 ∧ (ao = none → cap = 0) ∧ (0 < fs.length → ao = some ⟨g, 0, none⟩ ∧ B ≤ g) ∧ Cop B w g fs.length 0 fs fs ms := by
  have hx := h
  rcases h.2 with ⟨rfl, hn⟩ | ⟨g, cap, cur, rfl, hg, hh, hc, hm, hs, ht⟩
  · refine ⟨none, 0, 0, by rw [hn], by omega, by omega, fun _ => rfl, fun hp => by omega, rfl, fun t ht => by omega, fun t ht => by omega, fun t ht => by omega, fun t _ ht => by omega⟩
  · refine ⟨some ⟨g, 0, none⟩, cap, g, rfl, hc, by simpa [maxLen] using hm, (by intro e; cases e), fun _ => ⟨rfl, hg⟩, rfl, fun t ht => ?_, fun t ht j hj => ?_, fun t ht => by omega, fun t _ ht => rfl⟩
    · refine FlA.of fun j u hj => ?_
      have hj3 : j < 3 := (List.getElem?_eq_some_iff.1 hj).1
      rw [hx.cellAt (t * 3 + j) (by omega), fls_get fs t j ht hj3]
      exact hj
    · refine ⟨?_, hx.frozenAt _⟩
      rw [hx.cellAt (t * 3 + j) (by omega), fls_get fs t j ht hj]
      have : j = 0 ∨ j = 1 ∨ j = 2 := by omega
      rcases this with rfl | rfl | rfl <;> rfl
def CopyIs (B : Nat) (fs : List (Int × Bool × Value)) (ms : Nat → List Int) (v : Value) (w : World) : Prop := ∃ gs cap g ao, v = .slice ao fs.length cap ∧ fs.length ≤ cap ∧ cap ≤ 9223372036854775807 ∧ (ao = none → cap = 0) ∧ (0 < fs.length → ao = some ⟨g, 0, none⟩ ∧ B ≤ g) ∧ Cop B w g fs.length fs.length fs gs ms
theorem copy_any (v : Value) (fs : List (Int × Bool × Value)) (ms : Nat → List Int) (w : World) (h : Fls w v fs) (hm : Mks w fs ms) (hl : fs.length ≤ 100) :
    Calls Tryz.prog 35 #[v] w fun e w' => ∃ v', e = .returned v' ∧ CopyIs w.heap.size fs ms v' w' ∧ Below w.heap.size w w' := by
  have HM : Hid (Mks w fs ms) := hm
  have HU : Hid (∀ t, t < fs.length → ∀ x, (gf fs t).2.2 ≠ .int .u8 x) := fun t ht => byt_no_u8 (hm t ht).1
  have SC : Hid (Calls Tryz.prog 58 #[v] w fun e w' => ∃ v', e = .returned v' ∧ OwnF w.heap.size w' v' fs ∧ Below w.heap.size w w') := cloneF_any v fs w h (fun t ht => byt_one_cell (hm t ht).1) hl
  clear h hm
  go_enter Tryz.func35, Tryz.ntmps35
  go_wp2_with (go_at_call 58; refine SC.out.mono ?_; rintro e w1 ⟨v1, rfl, y1, B1⟩; obtain ⟨ao, cap, g, rfl, a1, a2, a3, a4, a5⟩ := own_cop y1 ms; have HA : Hid ((ao = none → cap = 0) ∧ (0 < fs.length → ao = some ⟨g, 0, none⟩ ∧ w.heap.size ≤ g)) := ⟨a3, a4⟩; have HC1 : Hid (Cop w.heap.size w1 g fs.length 0 fs fs ms) := a5; have HB1 : Hid (Below w.heap.size w w1) := B1; clear y1 a3 a4 a5 B1)
  go_loopw [10] (fun i wr => ∃ k : Nat, k ≤ fs.length ∧ i = .int .i64 k ∧ Hid (∃ gs, Cop w.heap.size wr g fs.length k fs gs ms) ∧ Hid (Below w.heap.size w wr)) (fun i _ => fs.length - (intOf i).toNat)
  case atStart => exact ⟨0, Nat.zero_le _, rfl, ⟨fs, HC1.out⟩, HB1⟩
  case round =>
    obtain ⟨k, hk, rfl, HC, HB⟩ := hrel
    obtain ⟨wa, rfl⟩ : ∃ wx, wx = wr := ⟨_, rfl⟩
    obtain ⟨gs, hcop⟩ := HC.out
    have HCa : Hid (Cop w.heap.size wa g fs.length k fs gs ms) := hcop
    clear HC hcop
    have k0 : (0 : Int) ≤ (k : Int) := by omega
    by_cases hlt : k < fs.length
    · have k1 : (k : Int) < (fs.length : Int) := by omega
      obtain ⟨hao, hgB⟩ := HA.out.2 (by omega)
      have HG : Hid (w.heap.size ≤ g) := hgB
      have HAO : Hid (ao = some ⟨g, 0, none⟩) := hao
      subst hao
      obtain ⟨x, cr, mo, mc, hf⟩ := split_flt HM.out hlt
      have hfa := HCa.out.2.1 k hlt
      rw [HCa.out.2.2.2.2 k (Nat.le_refl _) hlt, hf] at hfa
      have HF : Hid (FlA wa g (k * 3) (x, cr, .slice mo (ms k).length mc)) := hfa
      have lg : g < wa.heap.size := hfa.lt
      have HE : Hid (((gf fs k).1, (gf fs k).2.1) = (x, cr)) := by show _ = _; rw [hf]
      have HY : Hid (Byt w (.slice mo (ms k).length mc) (ms k) ∧ (ms k).length ≤ 140737488355328) := by have := HM.out k hlt; rw [hf] at this; exact this
      have S : Hid (∀ w0, Below w.heap.size w w0 → Calls Tryz.prog 59 #[fv (x, cr, .slice mo (ms k).length mc)] w0 fun e w' => ∃ m', e = .returned (fv (x, cr, m')) ∧ Bow w0.heap.size w' m' (ms k) ∧ Below w0.heap.size w0 w') := fun w0 hb => copyOf_any (x, cr, .slice mo (ms k).length mc) (ms k) w0 (HY.out.1.below hb) HY.out.2
      clear hf hfa hgB
      have t1 := tR
      go_wp2_with (first
        | (have q5 := t5; refine store_lawV _ (x, cr, .slice ao6 (ms k).length cap6) g (k * 3) rfl rfl T6.out rfl ?_; intro w7 E7 A7 T7 B7; have HE7 : Hid (w7 = w6.setCells g (k * 3) (fl (x, cr, .slice ao6 (ms k).length cap6))) := E7; have HB7 : Hid (Below w.heap.size w w7) := B6'.out.trans (B7.mono HG.out); clear E7 A7 T7 B7 t5)
        | (have q4 := t4; go_at_call 59; refine (S.out _ BB.out).mono ?_; rintro e w6 ⟨m6, rfl, y6, B6⟩; obtain ⟨ao6, cap6, rfl⟩ := byt_form y6.1
           have Y6 : Hid (Bow w.heap.size w6 (.slice ao6 (ms k).length cap6) (ms k)) := y6.mono BB.out.size
           have HC6 : Hid (Cop w.heap.size w6 g fs.length k fs gs ms) := HC3.out.below B6
           have T6 : Hid (w6.there g (k * 3) 3) := HC6.out.2.2.1 k hlt
           have B6' : Hid (Below w.heap.size w w6) := BB.out.trans (B6.mono BB.out.size)
           clear y6 t4 B6; have t5 := tR)
        | (have q4 := t3; refine load_lawS _ (by rfl) _ _ rfl (load_fault HA3.out) ?_; clear t3; have t4 := tR)
        | (have q2 := t2'; refine store_lawV _ (x, cr, .slice mo (ms k).length mc) wa.heap.size 0 rfl rfl HV2.out.2 rfl ?_; intro w3 E3 A3 T3 B3; have HA3 : Hid (FlA w3 wa.heap.size 0 (x, cr, .slice mo (ms k).length mc)) := A3; have BA : Below wa.heap.size wa w3 := B2.trans B3; have HC3 : Hid (Cop w.heap.size w3 g fs.length k fs gs ms) := HCa.out.below BA; have BB : Hid (Below w.heap.size w w3) := HB.out.trans (BA.mono HB.out.size); clear A3 T3 E3 BA B2 B3 t2'; have t3 := tR)
        | (have q1 := t2; refine new_lawV _ ?_; intro w2 V2 B2 l2; have HV2 : Hid (FlV w2 wa.heap.size f0) := V2; clear V2 t2; have t2' : (2 : Nat) = 2 := rfl)
        | (have q0 := t1; refine load_lawS _ (by rfl) _ _ rfl (load_fault HF.out) ?_; clear t1; have t2 := tR))
      have HC7 : Hid (∃ gs, Cop w.heap.size w7 g fs.length (k + 1) fs gs ms) := by
        have st := HC6.out.step hlt HU.out (.slice ao6 (ms k).length cap6) Y6.out
        have e1 : (gf fs k).1 = x := congrArg Prod.fst HE.out
        have e2 : (gf fs k).2.1 = cr := congrArg Prod.snd HE.out
        rw [e1, e2, ← HE7.out] at st
        exact ⟨_, st⟩
      go_roundw
      case rel => exact ⟨k + 1, by omega, by go_num, HC7, HB7⟩
      case measure => simp [intOf]; omega
    · have e : k = fs.length := by omega
      have HR : Hid (CopyIs w.heap.size fs ms (.slice ao fs.length cap) wa) := ⟨gs, cap, g, ao, rfl, a1, a2, HA.out.1, HA.out.2, by have := HCa.out; rw [e] at this; exact this⟩
      go_wp2
      go_ret
      exact ⟨_, rfl, HR.out, HB.out⟩
end Go.Proofs.YtakibiigcdgohaaGreatDoor.fa
namespace Go.Proofs.YtakibiigcdgohaaGreatDoor.na
open Go.RowKit Go.Proofs.YtakibiigcdgohaaGreatDoor.fa
set_option maxRecDepth 20000
def hid (M : Nat → Bool) (w : World) : World := { w with heap := w.heap.mapIdx fun b o => if M b then Obj.cells #[] 0 else o }
theorem hid_size (M : Nat → Bool) (w : World) : (hid M w).heap.size = w.heap.size := by simp [hid]
theorem hid_heap (M : Nat → Bool) (w : World) (b : Nat) : (hid M w).heap[b]? = (w.heap[b]?).map fun o => if M b then Obj.cells #[] 0 else o := by simp [hid]
theorem hid_at {M : Nat → Bool} {w : World} {b : Nat} (h : M b = false) : (hid M w).heap[b]? = w.heap[b]? := by
  rw [hid_heap]
  simp [h]
theorem hid_cell {M : Nat → Bool} {w : World} {a : Addr} {v : Value} (h : (hid M w).cell? a = some v) : w.cell? a = some v ∧ M a.block = false := by
  cases hM : M a.block with
  | false => exact ⟨by rw [← World.cell?_of_block (w := w) (w' := hid M w) (a := a) (hid_at hM)]; exact h, rfl⟩
  | true =>
    exfalso
    unfold World.cell? at h
    rw [hid_heap] at h
    cases hb : w.heap[a.block]? with
    | none => simp [hb] at h
    | some o => simp [hb, hM] at h
theorem cell_hid {M : Nat → Bool} {w : World} {a : Addr} {v : Value} (h : w.cell? a = some v) (hM : M a.block = false) : (hid M w).cell? a = some v := by
  rw [World.cell?_of_block (w := w) (w' := hid M w) (a := a) (hid_at hM)]; exact h
theorem hid_range {M : Nat → Bool} {w : World} {b p : Nat} {cs : List Value} (h : (hid M w).rangeAt b p cs) : w.rangeAt b p cs := fun j v hv => (hid_cell (h j v hv)).1
theorem range_hid {M : Nat → Bool} {w : World} {b p : Nat} {cs : List Value} (h : w.rangeAt b p cs) (hM : M b = false) : (hid M w).rangeAt b p cs := fun j v hv => cell_hid (h j v hv) hM
theorem hid_byt {M : Nat → Bool} {w : World} {v : Value} {xs : List Int} (h : Byt (hid M w) v xs) : Byt w v xs := by
  obtain ⟨ao, cap, rfl, h1, h2, h3, h4, h5⟩ := h
  refine ⟨ao, cap, rfl, h1, h2, h3, h4, fun hp => ?_⟩
  obtain ⟨b, off, rfl, hc⟩ := h5 hp
  exact ⟨b, off, rfl, fun t ht => (hid_cell (hc t ht)).1⟩
theorem hid_fls {M : Nat → Bool} {w : World} {v : Value} {fs : List (Int × Bool × Value)} (h : Fls (hid M w) v fs) : Fls w v fs := by
  obtain ⟨ao, cap, rfl, h1, h2, h3, h5⟩ := h
  refine ⟨ao, cap, rfl, h1, h2, h3, fun hp => ?_⟩
  obtain ⟨b, off, rfl, hc⟩ := h5 hp
  exact ⟨b, off, rfl, fun t ht => FlA.of (hid_range (hc t ht).range)⟩
theorem hid_mks {M : Nat → Bool} {w : World} {fs : List (Int × Bool × Value)} {ms : Nat → List Int} (h : Mks (hid M w) fs ms) : Mks w fs ms := fun t ht => ⟨hid_byt (h t ht).1, (h t ht).2⟩
theorem bow_hid {M : Nat → Bool} {B : Nat} {w : World} {v : Value} {xs : List Int} (h : Bow B w v xs) (hM : ∀ b, M b = true → b < B) : Byt (hid M w) v xs := by
  obtain ⟨⟨ao, cap, rfl, h1, h2, h3, h4, h5⟩, ho⟩ := h
  refine ⟨ao, cap, rfl, h1, h2, h3, h4, fun hp => ?_⟩
  obtain ⟨b, off, rfl, hc⟩ := h5 hp
  obtain ⟨b', off', cap', e, hB, _⟩ := ho hp
  cases e
  refine ⟨b, off, rfl, fun t ht => cell_hid (hc t ht) ?_⟩
  cases q : M b with
  | false => rfl
  | true => have := hM b q; omega
theorem not_hid {M : Nat → Bool} {B b : Nat} (hM : ∀ b, M b = true → b < B) (h : B ≤ b) : M b = false := by
  cases q : M b with
  | false => rfl
  | true => have := hM b q; omega
theorem own_hid {M : Nat → Bool} {B : Nat} {w : World} {v : Value} {xs : List Int} (h : Own B w v xs) (ha : AllB xs) (hM : ∀ b, M b = true → b < B) : Byt (hid M w) v xs := bow_hid (bow_own h ha) hM
theorem owr_hid {M : Nat → Bool} {B : Nat} {w : World} {v : Value} {e : TypeId} {k : Nat} {ess : List (List Value)} (h : OwR B w v e k ess) (hM : ∀ b, M b = true → b < B) : Rws (hid M w) v k ess := by
  obtain ⟨ao, cap, rfl, h1, h2, h3, h4, h5⟩ := h.rws
  refine ⟨ao, cap, rfl, h1, h2, h3, h4, fun hp => ?_⟩
  obtain ⟨g, cap', e, hg, hr⟩ := h.row hp
  cases e
  exact ⟨g, 0, rfl, fun t ht => by rw [Nat.zero_add]; exact range_hid (hr t ht).1 (not_hid hM hg)⟩
def Frm (M : Nat → Bool) (w w' : World) : Prop := w'.os = w.os ∧ w'.tape = w.tape ∧ w'.output = w.output ∧ w.heap.size ≤ w'.heap.size ∧ ∀ k, k < w.heap.size → M k = false → w'.heap[k]? = w.heap[k]?
theorem Frm.refl (M : Nat → Bool) (w : World) : Frm M w w := ⟨rfl, rfl, rfl, Nat.le_refl _, fun _ _ _ => rfl⟩
theorem Frm.size {M : Nat → Bool} {w w' : World} (h : Frm M w w') : w.heap.size ≤ w'.heap.size := h.2.2.2.1
theorem Frm.of_below {M : Nat → Bool} {w w' : World} (h : Below w.heap.size w w') : Frm M w w' := ⟨h.os, h.tape, h.output, h.size, fun k hk _ => h.block k hk⟩
theorem Frm.trans {M M' : Nat → Bool} {a b c : World} (h : Frm M a b) (h' : Frm M' b c) (hM : ∀ k, k < a.heap.size → M k = false → M' k = false) : Frm M a c :=
  ⟨h'.1.trans h.1, h'.2.1.trans h.2.1, h'.2.2.1.trans h.2.2.1, Nat.le_trans h.size h'.size, fun k hk q => (h'.2.2.2.2 k (Nat.lt_of_lt_of_le hk h.size) (hM k hk q)).trans (h.2.2.2.2 k hk q)⟩
theorem Frm.tr {M : Nat → Bool} {a b c : World} (h : Frm M a b) (h' : Frm M b c) : Frm M a c := h.trans h' fun _ _ q => q
theorem Frm.cells {M : Nat → Bool} {w : World} {b : Nat} (hb : M b = true) (o : Nat) (vs : List Value) : Frm M w (w.setCells b o vs) := by
  have h := below_cells b (Nat.le_refl _) vs o (Below.refl b w)
  refine ⟨h.os, h.tape, h.output, h.size, fun k hk q => ?_⟩
  have hne : k ≠ b := by intro e; rw [e, hb] at q; cases q
  clear h hk
  induction vs generalizing o w with
  | nil => rfl
  | cons v r ih => exact (ih (w := w.setCell ⟨b, o, none⟩ v) (o + 1) ).trans (Below.heap_setCell w ⟨b, o, none⟩ v k hne)
theorem Frm.set {M : Nat → Bool} {w : World} {b : Nat} (hb : M b = true) (o : Nat) (v : Value) : Frm M w (w.setCell ⟨b, o, none⟩ v) := Frm.cells hb o [v]
theorem Frm.grown {M : Nat → Bool} {w w' : World} {row : Option Nat} (h : w.grownBy w' row) (hr : ∀ k, row = some k → M k = true) : Frm M w w' :=
  ⟨h.os, h.tape, h.output, h.size, fun k hk q => h.block k hk fun e => by rw [hr k e.symm] at q; cases q⟩
theorem Frm.below {M : Nat → Bool} {w w' : World} {B : Nat} (h : Frm M w w') (hB : B ≤ w.heap.size) (hM : ∀ k, M k = true → B ≤ k) : Below B w w' :=
  ⟨h.1, h.2.1, h.2.2.1, h.size, fun k hk => h.2.2.2.2 k (by omega) (by
    cases q : M k with
    | false => rfl
    | true => have := hM k q; omega)⟩
theorem Frm.hid {M M' : Nat → Bool} {w w' : World} (h : Frm M w w') (hM : ∀ k, k < w.heap.size → M' k = M k) : Below (na.hid M w).heap.size (na.hid M w) (na.hid M' w') := by
  rw [hid_size]
  refine ⟨h.1, h.2.1, h.2.2.1, by rw [hid_size, hid_size]; exact h.size, fun k hk => ?_⟩
  have e := hM k hk
  cases q : M k with
  | false => rw [hid_at q, hid_at (e.trans q)]; exact h.2.2.2.2 k hk q
  | true =>
    have hk' := Nat.lt_of_lt_of_le hk h.size
    rw [hid_heap, hid_heap, e, q, Array.getElem?_eq_getElem hk, Array.getElem?_eq_getElem hk']
    rfl
theorem Frm.hid0 {M : Nat → Bool} {w w' : World} (h : Frm M w w') : Below (na.hid M w).heap.size (na.hid M w) (na.hid M w') := h.hid fun _ _ => rfl
theorem below_hid {M : Nat → Bool} {w w' : World} (h : Below w.heap.size w w') : Below (na.hid M w).heap.size (na.hid M w) (na.hid M w') := (Frm.of_below h).hid0
theorem Frm.block {M : Nat → Bool} {w w' : World} (h : Frm M w w') {k : Nat} (hk : k < w.heap.size) (q : M k = false) : w'.heap[k]? = w.heap[k]? := h.2.2.2.2 k hk q
section
variable {ops : Array Oper} {rest : List Oper} {a : Act} {Q : Exit → Act → World → Prop}
theorem store_law1 {d : Option Tmp} {x y : Operand} {t ty : TypeId} {pos : String} {af : Array Edge} (w : World) (b j : Nat) (v : Value) (hx : a.eval x = .pointer (some ⟨b, j, none⟩)) (hy : a.eval y = v) (hc : (w.cell? ⟨b, j, none⟩).isSome = true) (hf : w.frozen? ⟨b, j, none⟩ = false) (hi : (Tryz.prog.info? t).map (·.size) = some 1) (h1 : v.oneCell' = true) (hcv : v.cells = #[v])
    (hK : ∀ w', Hid (w' = w.setCell ⟨b, j, none⟩ v) → wpList Tryz.prog ops Q rest (a.put d undef) w') :
    wpList Tryz.prog ops Q (⟨d, Op.store t x y, ty, pos, af, none⟩ :: rest) a w := by
  refine wpList_plain rfl fun K hK' => ?_
  have hr : (storeVar t ⟨b, j, none⟩ v).run Tryz.prog w = .ok () (w.setCell ⟨b, j, none⟩ v) := by
    have e0 : ∀ i, i < [v].length → i = 0 := fun i hi => by simpa using hi
    have := run_storeCells_cells (P := Tryz.prog) b j [v] 0 w (fun i hi => by rw [e0 i hi]; simpa using hc) (fun i hi => by rw [e0 i hi]; simpa using hf) (fun u hu => by simp at hu; subst hu; exact h1)
    cases hq : Tryz.prog.info? t with
    | none => simp [hq] at hi
    | some i =>
      have hs : i.size = 1 := by simpa [hq] using hi
      simp only [Nat.add_zero] at this
      simp [storeVar, sizeOf, typeInfo, hq, hcv, hs]
      simpa [World.setCells] using this
  unfold Oper.wp execOp
  simp only [hx, hy, Instr.storeAt, Instr.sureAddr, Sem.run_bind, Sem.run_pure, Result.andThen_ok, hr]
  exact hK' _ _ (hK _ rfl)
end
theorem Vr.there1 {w : World} {c : Nat} {cs : List Value} (h : Vr w c cs) (j : Nat) (hj : j < cs.length) : (w.cell? ⟨c, j, none⟩).isSome = true := by
  rw [h.cell j _ (List.getElem?_eq_getElem hj)]; rfl
end Go.Proofs.YtakibiigcdgohaaGreatDoor.na
namespace Go.Proofs.YtakibiigcdgohaaGreatDoor.fa
open Go.RowKit
set_option maxRecDepth 20000
theorem makeFn (fn : Fn) (first cap : Array Value) (w : World) : (Instr.makeFunc fn first cap).run Tryz.prog w = .ok (.func fn first cap) w := rfl
theorem bitsOf_any (vm : Value) (m : List Int) (w : World) (hm : Byt w vm m) :
    Calls Tryz.prog 144 #[vm] w fun e w' => e = .returned (.func (.func 161) #[] #[.pointer (some ⟨w.heap.size, 0, none⟩)]) ∧ Say w' w.heap.size m ∧ Below w.heap.size w w' := by
  have HM : Hid (Byt w vm m) := hm
  obtain ⟨ao, cap, rfl, h1, h2, h3, h4, h5⟩ := hm
  clear h5 h3 h4
  have hmf := makeFn
  by_cases hl : m.length = 0
  · have HE : Hid (ms m = [255]) := by show _ = _; unfold ms; rw [if_pos hl]
    have S : Hid (∀ w0, Calls Tryz.prog 114 #[.int .u8 255, .int .i64 1] w0 fun e w' => ∃ v, e = .returned v ∧ Byt w' v [255] ∧ Below w0.heap.size w0 w') := fun w0 => fill_any 255 1 w0 (by decide)
    generalize hn : m.length = n at *
    subst hl
    go_enter Tryz.func144, Tryz.ntmps144
    go_wp2_with (go_at_call 114; refine (S.out _).mono ?_; rintro e w1 ⟨v1, rfl, y1, B1⟩; obtain ⟨ao1, cap1, rfl⟩ := byt_form y1; have V1 := (Var.new w _ _).below B1 (by simp); have c1 := V1.1; have f1 := V1.2)
    go_ret
    refine ⟨rfl, ⟨_, (V1.set _).1, ?_⟩, ?_⟩
    · rw [HE.out]
      exact byt_other y1 V1.1 (by simp)
    · exact (((Below.refl _ _).alloc (Nat.le_refl _) _).trans (B1.mono (by simp))).setCell (Nat.le_refl _) _
  · have HE : Hid (ms m = m) := by show _ = _; unfold ms; rw [if_neg hl]
    have l0 : (m.length : Int) ≠ 0 := by omega
    go_enter Tryz.func144, Tryz.ntmps144
    go_wp2
    go_ret
    refine ⟨rfl, ⟨_, (Var.new w _ _).1, ?_⟩, (Below.refl _ _).alloc (Nat.le_refl _) _⟩
    rw [HE.out]
    exact HM.out.below ((Below.refl _ _).alloc (Nat.le_refl _) _)
end Go.Proofs.YtakibiigcdgohaaGreatDoor.fa
namespace Go.Proofs.YtakibiigcdgohaaGreatDoor.fa
open Go.RowKit
set_option maxRecDepth 20000
def tc (xs ys : List Int) (i : Nat) : Int := (((gb xs i).toNat &&& (255 - (gb ys i).toNat) : Nat) : Int)
theorem tc_bd (xs ys : List Int) (hx : AllB xs) (i : Nat) : 0 ≤ tc xs ys i ∧ tc xs ys i ≤ 255 := by
  have := hx i
  unfold tc
  have h : (gb xs i).toNat &&& (255 - (gb ys i).toNat) ≤ (gb xs i).toNat := Nat.and_le_left
  omega
theorem toClear_any (va vb : Value) (xs ys : List Int) (i : Nat) (w : World) (ha : Byt w va xs) (hb : Byt w vb ys) (hl : xs.length = ys.length) (hi : i < xs.length) :
    Calls Tryz.prog 162 #[va, vb, .int .i64 i] w fun e w' => e = .returned (.int .u8 (tc xs ys i)) ∧ ∃ n, w' = w.drewN n := by
  have a1 := ha.all i
  have a2 := hb.all i
  obtain ⟨ao, ca, rfl, ha1, ha2, -, -, ha5⟩ := ha
  obtain ⟨bo, cb, rfl, hb1, hb2, -, -, hb5⟩ := hb
  obtain ⟨b, off, rfl, hca⟩ := ha5 (by omega)
  obtain ⟨b', off', rfl, hcb⟩ := hb5 (by omega)
  have c1 := hca i hi
  have c2 := hcb i (by omega)
  have i0 : (0 : Int) ≤ (i : Int) := by omega
  have i1 : (i : Int) < (xs.length : Int) := by omega
  have i2 : (i : Int) < (ys.length : Int) := by omega
  have e : bits .andNot .u8 (gb xs i) (gb ys i) = tc xs ys i := u8_andNot _ _ a1.1 (by omega) a2.1 (by omega)
  generalize tc xs ys i = z at *
  generalize gb xs i = x at *
  generalize gb ys i = y at *
  clear hca hcb ha5 hb5 a1 a2 hl
  go_enter Tryz.func162, Tryz.ntmps162
  go_wp2
  go_quiet (fail)
  go_wp2
  go_ret
  exact ⟨rfl, _, rfl⟩
def Tells (w : World) (v : Value) (D : Nat → Int) (n : Nat) : Prop := ∃ K caps, v = .func (.func K) #[] caps ∧ (∀ (q : Array Value) (w : World), (callFunc K q).run Tryz.prog w = .ok (.enter K q) w) ∧ (∀ i, 0 ≤ D i ∧ D i ≤ 255) ∧
  ∀ w', Below w.heap.size w w' → ∀ i, i < n → Calls Tryz.prog K (#[.int .i64 i] ++ caps) w' fun e w'' => e = .returned (.int .u8 (D i)) ∧ ∃ m, w'' = w'.drewN m
def pgl (xs ys : List Int) (D : Nat → Int) : List Int := (List.range xs.length).map fun k => (((gb xs k).toNat &&& (255 - ((tc xs ys k).toNat &&& (D k).toNat)) : Nat) : Int)
theorem pgl_len (xs ys : List Int) (D : Nat → Int) : (pgl xs ys D).length = xs.length := by simp [pgl]
theorem pgl_gb (xs ys : List Int) (D : Nat → Int) (k : Nat) (h : k < xs.length) : gb (pgl xs ys D) k = (((gb xs k).toNat &&& (255 - ((tc xs ys k).toNat &&& (D k).toNat)) : Nat) : Int) := by simp [gb, List.getD, pgl, h]
theorem pgl_all (xs ys : List Int) (D : Nat → Int) (hx : AllB xs) : AllB (pgl xs ys D) := allB_mem fun z hz => by
  obtain ⟨k, hk, rfl⟩ := List.mem_map.1 hz
  have := hx k
  have h : (gb xs k).toNat &&& (255 - ((tc xs ys k).toNat &&& (D k).toNat)) ≤ (gb xs k).toNat := Nat.and_le_left
  omega
def prt (zs : List Int) (k : Nat) : List Int := zs.take k ++ List.replicate (zs.length - k) 0
theorem prt_zero (zs : List Int) : prt zs 0 = List.replicate zs.length 0 := by simp [prt]
theorem prt_end (zs : List Int) : prt zs zs.length = zs := by simp [prt]
theorem prt_set (zs : List Int) (k : Nat) (h : k < zs.length) : (prt zs k).set k (gb zs k) = prt zs (k + 1) := by
  unfold prt
  obtain ⟨d, hd⟩ : ∃ d, zs.length - k = d + 1 := ⟨zs.length - k - 1, by omega⟩
  have e : zs.length - (k + 1) = d := by omega
  have hm : min k zs.length = k := by omega
  rw [hd, e, List.set_append_right _ _ (by simp; omega), List.take_succ_eq_append_getElem h, List.append_assoc]
  simp only [List.length_take, hm, Nat.sub_self, List.replicate_succ, List.set_cons_zero, gb, List.getD, List.getElem?_eq_getElem h, Option.getD_some, List.cons_append, List.nil_append]
theorem prog_any (va vb vd : Value) (xs ys : List Int) (D : Nat → Int) (w : World) (ha : Byt w va xs) (hb : Byt w vb ys) (hl : xs.length = ys.length) (hmax : xs.length ≤ 1048576) (hD : Tells w vd D xs.length) :
    Calls Tryz.prog 147 #[va, vb, vd] w fun e w' => ∃ v, e = .returned v ∧ Byt w' v (pgl xs ys D) ∧ Below w.heap.size w w' := by
  obtain ⟨K, caps, rfl, hcf, hDb, hDc⟩ := hD
  have HA : Hid (Byt w va xs) := ha
  have HB : Hid (Byt w vb ys) := hb
  obtain ⟨ao, ca, rfl, ha1, ha2, ha3, -, ha5⟩ := ha
  have HA5 : Hid (0 < xs.length → ∃ b off, ao = some ⟨b, off, none⟩ ∧ ∀ t, t < xs.length → w.cell? ⟨b, off + t, none⟩ = some (.int .u8 (gb xs t))) := ha5
  have HL : Hid (xs.length = ys.length) := hl
  have HDB : Hid (∀ i, 0 ≤ D i ∧ D i ≤ 255) := hDb
  have HDC : Hid (∀ w', Below w.heap.size w w' → ∀ i, i < xs.length → Calls Tryz.prog K (#[.int .i64 i] ++ caps) w' fun e w'' => e = .returned (.int .u8 (D i)) ∧ ∃ m, w'' = w'.drewN m) := hDc
  clear ha5 ha3 hb hl hDb hDc
  have HZ : Hid ((pgl xs ys D).length = xs.length) := pgl_len xs ys D
  go_enter Tryz.func147, Tryz.ntmps147
  go_wp2_with (at_make; refine make_law _ rfl (.tmp 10) (.tmp 10) rfl w.heap.size (Nat.le_refl _) _ xs.length rfl rfl rfl (by omega) ?_; intro w1 hown hbel hlt)
  go_loopw [14] (fun i wr => ∃ k : Nat, k ≤ xs.length ∧ i = .int .i64 k ∧ OwnN w.heap.size wr w.heap.size xs.length (prt (pgl xs ys D) k) ∧ Below w.heap.size w wr) (fun i _ => xs.length - (intOf i).toNat)
  case atStart => exact ⟨0, Nat.zero_le _, rfl, by rw [prt_zero, HZ.out]; exact hown, hbel⟩
  case round =>
    clear hown hbel
    obtain ⟨k, hk, rfl, hown, hbel⟩ := hrel
    by_cases hlt' : k < xs.length
    · obtain ⟨b, off, rfl, hca⟩ := HA5.out (by omega)
      have n1 := World.block_lt_of_cell? w _ (hca k hlt')
      have c1 : wr.cell? ⟨b, off + k, none⟩ = some (.int .u8 (gb xs k)) := (hbel.cell n1).trans (hca k hlt')
      have lk : (k : Int) < (xs.length : Int) := by omega
      have lk0 : (0 : Int) ≤ (k : Int) := by omega
      have S1 : Hid (∀ n, Calls Tryz.prog 162 #[.slice (some ⟨b, off, none⟩) xs.length ca, vb, .int .i64 k] (wr.drewN n) fun e w' => e = .returned (.int .u8 (tc xs ys k)) ∧ ∃ m, w' = (wr.drewN n).drewN m) := fun n => toClear_any _ _ xs ys k _ (byt_drawn (HA.out.below hbel) n) (byt_drawn (HB.out.below hbel) n) HL.out hlt'
      have S2 : Hid (∀ n, Calls Tryz.prog K (#[.int .i64 k] ++ caps) (wr.drewN n) fun e w' => e = .returned (.int .u8 (D k)) ∧ ∃ m, w' = (wr.drewN n).drewN m) := fun n => HDC.out _ (below_drawn hbel n) k hlt'
      have HX : Hid (bits .andNot .u8 (gb xs k) (bits .and .u8 (tc xs ys k) (D k)) = gb (pgl xs ys D) k) := by
        show _ = _
        have b1 := HA.out.all k
        have b2 := tc_bd xs ys HA.out.all k
        have b3 := HDB.out k
        rw [pgl_gb xs ys D k hlt', u8_and _ _ b2.1 (by omega) b3.1 (by omega)]
        have h : (tc xs ys k).toNat &&& (D k).toNat ≤ (tc xs ys k).toNat := Nat.and_le_left
        rw [u8_andNot _ _ b1.1 (by omega) (by omega) (by omega), Int.toNat_natCast]
      have HO : Hid (OwnN w.heap.size wr w.heap.size xs.length (prt (pgl xs ys D) k)) := hown
      have HBL : Hid (Below w.heap.size w wr) := hbel
      clear hca hown hbel
      go_wp2
      refine wp_region_any (by kernel_rfl) ?_
      change wpAny _ _ _ _ _ _ _ (World.drew _)
      refine wpAny_quiet_then (C := fun w' => ∃ n, w' = wr.drewN n) 0 16 1 _ (by kernel_rfl) rfl (by kernel_rfl) (by kernel_rfl) ⟨1, rfl⟩ ?_
      simp only [List.take_succ_cons, List.take_zero, List.drop_zero]
      repeat (quiet_step (first
        | with_reducible exact Calls.quiet_of (S1.out _)
        | with_reducible exact Calls.quiet_of (S2.out _)))
      refine wpQuiet_nil ?_
      rintro f _ ⟨nq, rfl⟩
      have O1 : OwnN w.heap.size (wr.drewN nq) w.heap.size xs.length (prt (pgl xs ys D) k) := HO.out.drew nq
      have HS := O1.set k (gb (pgl xs ys D) k)
      rw [prt_set _ k (by rw [HZ.out]; exact hlt')] at HS
      have B2 : Below w.heap.size w ((wr.drewN nq).setCell ⟨w.heap.size, k, none⟩ (.int .u8 (gb (pgl xs ys D) k))) := (below_drawn HBL.out nq).setCell (Nat.le_refl _) _
      refine wpAny_ready (rs := [16]) (by kernel_rfl) (by simp) ?_
      refine AllReady.cons rfl (fun K hK => ?_) AllReady.nil
      refine step_set _ rfl none rfl (.tmp 32) (.tmp 31) 5 rfl .u8 (gb (pgl xs ys D) k) w.heap.size k rfl (by rw [← HX.out]; rfl) (by rw [O1.cell hlt']; rfl) (O1.free k) i_u8 (hK _ _ ?_)
      simp only [Act.put]
      clear O1 c1
      generalize (wr.drewN nq).setCell ⟨w.heap.size, k, none⟩ (.int .u8 (gb (pgl xs ys D) k)) = w6 at *
      refine wpAny_done (by kernel_rfl) ?_ _
      go_wp2
      go_roundw
      case rel => exact ⟨k + 1, by omega, by go_num, HS, B2⟩
      case measure => simp [intOf]; omega
    · have hks : k = xs.length := by omega
      subst hks
      have hown2 : OwnN w.heap.size wr w.heap.size xs.length (pgl xs ys D) := by
        have := hown; rw [← HZ.out, prt_end, HZ.out] at this; exact this
      go_wp2
      go_ret
      exact ⟨_, rfl, hown2.byt (pgl_all _ _ _ HA.out.all), hbel⟩
end Go.Proofs.YtakibiigcdgohaaGreatDoor.fa
namespace Go.Proofs.YtakibiigcdgohaaGreatDoor.fa
open Go.RowKit
set_option maxRecDepth 20000
def ln (x : Nat) : Nat := if x < 1 then 0 else if x < 2 then 1 else if x < 4 then 2 else if x < 8 then 3 else if x < 16 then 4 else if x < 32 then 5 else if x < 64 then 6 else if x < 128 then 7 else 8
theorem ln_top : ∀ x, x < 256 → 0 < x → 1 ≤ ln x ∧ ln x ≤ 8 ∧ bit x (ln x - 1) = true ∧ ∀ t, t < 8 → ln x ≤ t → bit x t = false := by decide +kernel
set_option maxRecDepth 20000 in
theorem len8_any (x : Nat) (w : World) (hx : x < 256) :
    Calls Tryz.prog 163 #[.int .u8 x] w fun e w' => e = .returned (.int .i64 (ln x)) ∧ w' = w := by
  go_enter Tryz.func163, Tryz.ntmps163
  go_wp2
  go_ret
  refine ⟨ret_int ?_, rfl⟩
  clear w
  revert x
  decide +kernel
end Go.Proofs.YtakibiigcdgohaaGreatDoor.fa
namespace Go.Proofs.YtakibiigcdgohaaGreatDoor.fa
open Go.RowKit
set_option maxRecDepth 20000
theorem bit_not : ∀ y, y < 256 → ∀ t, t < 8 → bit (255 - y) t = !bit y t := by decide +kernel
theorem bit_and (a b t : Nat) : bit (a &&& b) t = (bit a t && bit b t) := by rw [bit_test, bit_test, bit_test, Nat.testBit_and]
theorem bit_or (a b t : Nat) : bit (a ||| b) t = (bit a t || bit b t) := by rw [bit_test, bit_test, bit_test, Nat.testBit_or]
theorem bit_zero (t : Nat) : bit 0 t = false := by unfold bit; simp
theorem bit_pow : ∀ k, k < 8 → ∀ t, t < 8 → bit (2 ^ k) t = decide (t = k) := by decide +kernel
theorem tc_bit (xs ys : List Int) (hy : AllB ys) (j t : Nat) (ht : t < 8) : bit (tc xs ys j).toNat t = due xs ys (8 * j + t) := by
  have b := hy j
  unfold tc due
  rw [Int.toNat_natCast, bit_and, bit_not _ (by omega) t ht, hs_at xs j t ht, hs_at ys j t ht]
theorem lst_eq (xs ys : List Int) (N p : Nat) (hp : p < N) (hd : due xs ys p = true) (h : ∀ k, p < k → k < N → due xs ys k = false) : lst xs ys N = p + 1 := by
  induction N with
  | zero => omega
  | succ N ih =>
    unfold lst
    by_cases e : p = N
    · subst e; rw [if_pos hd]
    · rw [if_neg (by rw [h N (by omega) (by omega)]; simp), ih (by omega) (fun k h1 h2 => h k h1 (by omega))]
theorem lst_none (xs ys : List Int) (N : Nat) (h : ∀ k, k < N → due xs ys k = false) : lst xs ys N = 0 := by
  induction N with
  | zero => rfl
  | succ N ih =>
    unfold lst
    rw [if_neg (by rw [h N (by omega)]; simp), ih (fun k hk => h k (by omega))]
def IsL (xs ys : List Int) (p z : Nat) : Prop := (p = 0 ∧ z = 0 ∧ lst xs ys (8 * xs.length) = 0) ∨ ∃ t, t < 8 ∧ p < xs.length ∧ z = 2 ^ t ∧ lst xs ys (8 * xs.length) = 8 * p + t + 1
theorem isL_some (xs ys : List Int) (hx : AllB xs) (hy : AllB ys) (p x : Nat) (hp : p < xs.length) (hx0 : tc xs ys p = x) (h0 : 0 < x) (h : ∀ q, 8 * (p + 1) ≤ q → q < 8 * xs.length → due xs ys q = false) : IsL xs ys p (2 ^ (ln x - 1)) := by
  have hb := tc_bd xs ys hx p
  obtain ⟨l1, l2, l3, l4⟩ := ln_top x (by omega) h0
  have hbit : ∀ t, t < 8 → due xs ys (8 * p + t) = bit x t := fun t ht => by rw [← tc_bit xs ys hy p t ht, hx0, Int.toNat_natCast]
  refine Or.inr ⟨ln x - 1, by omega, hp, rfl, lst_eq xs ys _ _ (by omega) (by rw [hbit _ (by omega)]; exact l3) fun k h1 h2 => ?_⟩
  by_cases hk : 8 * (p + 1) ≤ k
  · exact h k hk h2
  · have e : k = 8 * p + (k - 8 * p) := by omega
    rw [e, hbit _ (by omega)]
    exact l4 _ (by omega) (by omega)
theorem due_byte (xs ys : List Int) (hy : AllB ys) (p : Nat) (h0 : tc xs ys p = 0) (q : Nat) (h1 : 8 * p ≤ q) (h2 : q < 8 * (p + 1)) : due xs ys q = false := by
  have := tc_bit xs ys hy p (q - 8 * p) (by omega)
  rw [h0, show (0 : Int).toNat = 0 from rfl, bit_zero, show 8 * p + (q - 8 * p) = q by omega] at this
  exact this.symm
theorem last_any (va vb : Value) (xs ys : List Int) (w : World) (ha : Byt w va xs) (hb : Byt w vb ys) (hl : xs.length = ys.length) :
    Calls Tryz.prog 145 #[va, vb] w fun e w' => ∃ p z : Nat, e = .returned (.tuple #[.int .i64 p, .int .u8 z]) ∧ IsL xs ys p z ∧ ∃ n, w' = w.drewN n := by
  have HX : Hid (AllB xs ∧ AllB ys) := ⟨ha.all, hb.all⟩
  have S1 : Hid (∀ n i, i < xs.length → Calls Tryz.prog 162 #[va, vb, .int .i64 i] (w.drewN n) fun e w' => e = .returned (.int .u8 (tc xs ys i)) ∧ ∃ m, w' = (w.drewN n).drewN m) := fun n i hi => toClear_any va vb xs ys i _ (byt_drawn ha n) (byt_drawn hb n) hl hi
  have S2 : Hid (∀ (x : Nat) w0, x < 256 → Calls Tryz.prog 163 #[.int .u8 x] w0 fun e w' => e = .returned (.int .i64 (ln x)) ∧ w' = w0) := fun x w0 h => len8_any x w0 h
  obtain ⟨ao, ca, rfl, ha1, ha2, -⟩ := ha
  clear hb hl
  go_enter Tryz.func145, Tryz.ntmps145
  go_wp2
  go_loopw [6] (fun i wr => ∃ k n : Nat, k ≤ xs.length ∧ i = .int .i64 ((k : Int) - 1) ∧ Hid (∀ q, 8 * k ≤ q → q < 8 * xs.length → due xs ys q = false) ∧ wr = w.drewN n) (fun i _ => (intOf i + 1).toNat)
  case atStart => exact ⟨xs.length, 0, Nat.le_refl _, by go_num, fun q h1 h2 => by omega, rfl⟩
  case round =>
    obtain ⟨k, n, hk, rfl, HK, rfl⟩ := hrel
    rcases Nat.eq_zero_or_pos k with h0 | hp
    · subst h0
      go_wp2
      go_ret2
      exact ⟨0, 0, rfl, Or.inl ⟨rfl, rfl, lst_none _ _ _ fun q hq => HK.out q (by omega) hq⟩, n, rfl⟩
    · obtain ⟨p, rfl⟩ : ∃ p, k = p + 1 := ⟨k - 1, by omega⟩
      have e1 : (((p + 1 : Nat) : Int) - 1) = (p : Int) := by omega
      rw [e1]
      have tb := tc_bd xs ys HX.out.1 p
      obtain ⟨x, hx⟩ : ∃ x : Nat, tc xs ys p = x := ⟨(tc xs ys p).toNat, by omega⟩
      have xb : x < 256 := by omega
      have S3 : Hid (Calls Tryz.prog 162 #[.slice ao xs.length ca, vb, .int .i64 p] (w.drewN n) fun e w' => e = .returned (.int .u8 x) ∧ ∃ m, w' = (w.drewN n).drewN m) := by rw [← hx]; exact S1.out n p (by omega)
      have HXX : Hid (tc xs ys p = x) := hx
      have p0 : (0 : Int) ≤ (p : Int) := by omega
      have q1 : IntKind.i64.wrap (p : Int) = p := by rw [IntKind.wrap_i64]; omega
      clear hx tb e1
      by_cases hz : x = 0
      · subst hz
        go_wp2_with (go_at_call 162; refine S3.out.mono ?_; rintro e w2 ⟨rfl, nn, hw⟩; obtain rfl := hw.symm)
        go_roundw
        case rel => exact ⟨p, n + nn, by omega, by go_num, fun q h1 h2 => if h : 8 * (p + 1) ≤ q then HK.out q h h2 else due_byte xs ys HX.out.2 p HXX.out q h1 (by omega), rfl⟩
        case measure => simp [intOf]
      · have xn : ((x : Int) != 0) = true := by simpa using (show (x : Int) ≠ 0 by omega)
        have S4 : Hid (∀ w0, Calls Tryz.prog 163 #[.int .u8 x] w0 fun e w' => e = .returned (.int .i64 (ln x)) ∧ w' = w0) := fun w0 => S2.out x w0 xb
        obtain ⟨l1, l2, -, -⟩ := ln_top x xb (by omega)
        obtain ⟨t, ht⟩ : ∃ t, ln x = t + 1 := ⟨ln x - 1, by omega⟩
        have HT : Hid (ln x = t + 1) := ht
        rw [ht] at S4
        have t7 : t ≤ 7 := by omega
        have r1 : IntKind.i64.wrap (((t + 1 : Nat) : Int) - 1) = t := by rw [IntKind.wrap_i64]; omega
        have t0 : (0 : Int) ≤ (t : Int) := by omega
        have z2 : 2 ^ t ≤ 128 := Nat.pow_le_pow_right (by omega) (show t ≤ 7 by omega)
        clear ht l1 l2
        go_wp2_with (go_at_call 162; refine S3.out.mono ?_; rintro e w2 ⟨rfl, nn, hw⟩; obtain rfl := hw.symm)
        obtain ⟨wz, hwz⟩ : ∃ wz, wz = w.drewN (n + nn) := ⟨_, rfl⟩
        have HW : Hid (wz = w.drewN (n + nn)) := hwz
        rw [← hwz]
        clear hwz
        go_quiet ((go_at_call 163; exact Calls.quiet_of_same (S4.out _)))
        go_wp2
        go_ret2
        refine ⟨p, 2 ^ t, ?_, ?_, n + nn + nq, ?_⟩
        · have e2 : (2 : Int) ^ t % 256 = ((2 ^ t : Nat) : Int) := by
            rw [show (2 : Int) ^ t = ((2 ^ t : Nat) : Int) by simp]
            generalize 2 ^ t = q at *
            omega
          rw [e2]
          rfl
        · have := isL_some xs ys HX.out.1 HX.out.2 p x (by omega) HXX.out (by omega) HK.out
          rwa [HT.out, Nat.add_sub_cancel] at this
        · rw [HW.out, World.drewN_drewN]
end Go.Proofs.YtakibiigcdgohaaGreatDoor.fa
namespace Go.Proofs.YtakibiigcdgohaaGreatDoor.fa
open Go.RowKit
set_option maxRecDepth 20000
theorem say_tells {w : World} {c : Nat} {m : List Int} (h : Say w c m) (hm : AllB m) (n : Nat) (hn : n ≤ 9223372036854775807) : Tells w (.func (.func 161) #[] #[.pointer (some ⟨c, 0, none⟩)]) (mb m) n :=
  ⟨161, #[.pointer (some ⟨c, 0, none⟩)], rfl, fun _ _ => rfl, mb_bd hm, fun _ hb i hi => said_any c m i _ (h.below hb) (by omega)⟩
def stl (xs : List Int) (D : Nat → Int) : List Int := (List.range xs.length).map fun k => (((gb xs k).toNat ||| (D k).toNat : Nat) : Int)
theorem stl_len (xs : List Int) (D : Nat → Int) : (stl xs D).length = xs.length := by simp [stl]
theorem stl_gb (xs : List Int) (D : Nat → Int) (k : Nat) (h : k < xs.length) : gb (stl xs D) k = (((gb xs k).toNat ||| (D k).toNat : Nat) : Int) := by simp [gb, List.getD, stl, h]
theorem stl_all (xs : List Int) (D : Nat → Int) (hx : AllB xs) (hD : ∀ i, 0 ≤ D i ∧ D i ≤ 255) : AllB (stl xs D) := allB_mem fun z hz => by
  obtain ⟨k, hk, rfl⟩ := List.mem_map.1 hz
  have := hx k
  have := hD k
  have h := Nat.or_lt_two_pow (n := 8) (show (gb xs k).toNat < 2 ^ 8 by omega) (show (D k).toNat < 2 ^ 8 by omega)
  omega
theorem fset_any (va vm : Value) (xs m : List Int) (w : World) (ha : Byt w va xs) (hm : Byt w vm m) (hmax : xs.length ≤ 1048576) :
    Calls Tryz.prog 151 #[va, vm] w fun e w' => ∃ v, e = .returned v ∧ Byt w' v (stl xs (mb m)) ∧ Below w.heap.size w w' := by
  have HA : Hid (Byt w va xs) := ha
  have SB : Hid (Calls Tryz.prog 144 #[vm] w fun e w' => e = .returned (.func (.func 161) #[] #[.pointer (some ⟨w.heap.size, 0, none⟩)]) ∧ Say w' w.heap.size m ∧ Below w.heap.size w w') := bitsOf_any vm m w hm
  have HMB : Hid (∀ i, 0 ≤ mb m i ∧ mb m i ≤ 255) := fun i => mb_bd hm.all i
  obtain ⟨ao, ca, rfl, ha1, ha2, ha3, -, ha5⟩ := ha
  have HA5 : Hid (0 < xs.length → ∃ b off, ao = some ⟨b, off, none⟩ ∧ ∀ t, t < xs.length → w.cell? ⟨b, off + t, none⟩ = some (.int .u8 (gb xs t))) := ha5
  clear ha5 ha3 hm
  have HZ : Hid ((stl xs (mb m)).length = xs.length) := stl_len xs (mb m)
  go_enter Tryz.func151, Tryz.ntmps151
  go_wp2_with (first
    | (go_at_call 144; refine SB.out.mono ?_; rintro e w0 ⟨rfl, y0, B0⟩; have Y0 : Hid (Say w0 w.heap.size m) := y0; clear y0; have l0 := Y0.out.lt)
    | (at_make; refine make_law _ rfl (.tmp 11) (.tmp 11) rfl w0.heap.size (Nat.le_refl _) _ xs.length rfl rfl rfl (by omega) ?_; intro w1 hown hbel hlt))
  go_loopw [15] (fun i wr => ∃ k : Nat, k ≤ xs.length ∧ i = .int .i64 k ∧ OwnN w0.heap.size wr w0.heap.size xs.length (prt (stl xs (mb m)) k) ∧ Below w0.heap.size w0 wr) (fun i _ => xs.length - (intOf i).toNat)
  case atStart => exact ⟨0, Nat.zero_le _, rfl, by rw [prt_zero, HZ.out]; exact hown, hbel⟩
  case round =>
    clear hown hbel
    obtain ⟨k, hk, rfl, hown, hbel⟩ := hrel
    by_cases hlt' : k < xs.length
    · obtain ⟨b, off, rfl, hca⟩ := HA5.out (by omega)
      have n1 : b < w.heap.size := World.block_lt_of_cell? w _ (hca k hlt')
      have c1 : wr.cell? ⟨b, off + k, none⟩ = some (.int .u8 (gb xs k)) := (hbel.cell (show b < w0.heap.size by omega)).trans ((B0.cell n1).trans (hca k hlt'))
      have lk : (k : Int) < (xs.length : Int) := by omega
      have lk0 : (0 : Int) ≤ (k : Int) := by omega
      have S2 : Hid (∀ n, Calls Tryz.prog 161 #[.int .i64 k, .pointer (some ⟨w.heap.size, 0, none⟩)] (wr.drewN n) fun e w' => e = .returned (.int .u8 (mb m k)) ∧ ∃ m, w' = (wr.drewN n).drewN m) := fun n => said_any _ m k _ (Y0.out.below (below_drawn hbel n)) (by omega)
      have HX : Hid (bits .or .u8 (gb xs k) (mb m k) = gb (stl xs (mb m)) k) := by
        show _ = _
        have b1 := HA.out.all k
        have b3 := HMB.out k
        rw [stl_gb xs (mb m) k hlt', u8_or _ _ b1.1 (by omega) b3.1 (by omega)]
      have HO : Hid (OwnN w0.heap.size wr w0.heap.size xs.length (prt (stl xs (mb m)) k)) := hown
      have HBL : Hid (Below w0.heap.size w0 wr) := hbel
      clear hca hown hbel
      go_wp2
      refine wp_region_any (by kernel_rfl) ?_
      change wpAny _ _ _ _ _ _ _ (World.drew _)
      refine wpAny_quiet_then (C := fun w' => ∃ n, w' = wr.drewN n) 0 11 1 _ (by kernel_rfl) rfl (by kernel_rfl) (by kernel_rfl) ⟨1, rfl⟩ ?_
      simp only [List.take_succ_cons, List.take_zero, List.drop_zero]
      repeat (quiet_step (with_reducible exact Calls.quiet_of (S2.out _)))
      refine wpQuiet_nil ?_
      rintro f _ ⟨nq, rfl⟩
      have O1 : OwnN w0.heap.size (wr.drewN nq) w0.heap.size xs.length (prt (stl xs (mb m)) k) := HO.out.drew nq
      have HS := O1.set k (gb (stl xs (mb m)) k)
      rw [prt_set _ k (by rw [HZ.out]; exact hlt')] at HS
      have B2 : Below w0.heap.size w0 ((wr.drewN nq).setCell ⟨w0.heap.size, k, none⟩ (.int .u8 (gb (stl xs (mb m)) k))) := (below_drawn HBL.out nq).setCell (Nat.le_refl _) _
      refine wpAny_ready (rs := [11]) (by kernel_rfl) (by simp) ?_
      refine AllReady.cons rfl (fun K hK => ?_) AllReady.nil
      refine step_set _ rfl none rfl (.tmp 28) (.tmp 27) 5 rfl .u8 (gb (stl xs (mb m)) k) w0.heap.size k rfl (by rw [← HX.out]; rfl) (by rw [O1.cell hlt']; rfl) (O1.free k) i_u8 (hK _ _ ?_)
      simp only [Act.put]
      clear O1 c1
      generalize (wr.drewN nq).setCell ⟨w0.heap.size, k, none⟩ (.int .u8 (gb (stl xs (mb m)) k)) = w6 at *
      refine wpAny_done (by kernel_rfl) ?_ _
      go_wp2
      go_roundw
      case rel => exact ⟨k + 1, by omega, by go_num, HS, B2⟩
      case measure => simp [intOf]; omega
    · have hks : k = xs.length := by omega
      subst hks
      have hown2 : OwnN w0.heap.size wr w0.heap.size xs.length (stl xs (mb m)) := by
        have := hown; rw [← HZ.out, prt_end, HZ.out] at this; exact this
      go_wp2
      go_ret
      exact ⟨_, rfl, hown2.byt (stl_all _ _ HA.out.all HMB.out), B0.trans (hbel.mono (by omega))⟩
theorem clear_any (va vb vm : Value) (xs ys m : List Int) (w : World) (ha : Byt w va xs) (hb : Byt w vb ys) (hm : Byt w vm m) (hl : xs.length = ys.length) (hmax : xs.length ≤ 1048576) :
    Calls Tryz.prog 143 #[va, vb, vm] w fun e w' => ∃ v, e = .returned (.tuple #[v, .int .i64 0]) ∧ Byt w' v (pgl xs ys (mb m)) ∧ Below w.heap.size w w' := by
  have SB : Hid (Calls Tryz.prog 144 #[vm] w fun e w' => e = .returned (.func (.func 161) #[] #[.pointer (some ⟨w.heap.size, 0, none⟩)]) ∧ Say w' w.heap.size m ∧ Below w.heap.size w w') := bitsOf_any vm m w hm
  have SP : Hid (∀ w1 c, Say w1 c m → Below w.heap.size w w1 → Calls Tryz.prog 147 #[va, vb, .func (.func 161) #[] #[.pointer (some ⟨c, 0, none⟩)]] w1 fun e w' => ∃ v, e = .returned v ∧ Byt w' v (pgl xs ys (mb m)) ∧ Below w1.heap.size w1 w') := fun w1 c h1 h2 => prog_any va vb _ xs ys (mb m) w1 (ha.below h2) (hb.below h2) hl hmax (say_tells h1 hm.all _ (by omega))
  obtain ⟨ao, ca, rfl, ha1, ha2, -⟩ := ha
  obtain ⟨bo, cb, rfl, hb1, hb2, -⟩ := hb
  rw [← hl] at hb1 SP ⊢
  generalize pgl xs ys (mb m) = zs at *
  clear hl hm
  go_enter Tryz.func143, Tryz.ntmps143
  go_wp2_with (first
    | (go_at_call 147; refine (SP.out _ _ Y0.out B0).mono ?_; rintro e w1 ⟨v1, rfl, y1, B1⟩; have Y1 : Hid (Byt w1 v1 zs) := y1; clear y1)
    | (go_at_call 144; refine SB.out.mono ?_; rintro e w0 ⟨rfl, y0, B0⟩; have Y0 : Hid (Say w0 w.heap.size m) := y0; clear y0))
  go_ret2
  exact ⟨_, rfl, Y1.out, B0.trans (B1.mono B0.size)⟩
end Go.Proofs.YtakibiigcdgohaaGreatDoor.fa
namespace Go.Proofs.YtakibiigcdgohaaGreatDoor.fa
open Go.RowKit
set_option maxRecDepth 20000
def dn (m : List Int) (p z i : Nat) : Int := if i = p then (((mb m i).toNat &&& (255 - z) : Nat) : Int) else mb m i
theorem dn_bd {m : List Int} (h : AllB m) (p z i : Nat) : 0 ≤ dn m p z i ∧ dn m p z i ≤ 255 := by
  have hb := mb_bd h i
  unfold dn
  split
  · have : (mb m i).toNat &&& (255 - z) ≤ (mb m i).toNat := Nat.and_le_left
    omega
  · exact hb
def Dn (w : World) (cp cs cl c p z : Nat) (m : List Int) : Prop := w.cell? ⟨cp, 0, none⟩ = some (.int .i64 p) ∧ w.cell? ⟨cs, 0, none⟩ = some (.func (.func 161) #[] #[.pointer (some ⟨c, 0, none⟩)]) ∧ w.cell? ⟨cl, 0, none⟩ = some (.int .u8 z) ∧ Say w c m
theorem Dn.below {w w' : World} {cp cs cl c p z : Nat} {m : List Int} (h : Dn w cp cs cl c p z m) (hb : Below w.heap.size w w') : Dn w' cp cs cl c p z m :=
  ⟨by rw [hb.cell (World.block_lt_of_cell? w _ h.1)]; exact h.1, by rw [hb.cell (World.block_lt_of_cell? w _ h.2.1)]; exact h.2.1, by rw [hb.cell (World.block_lt_of_cell? w _ h.2.2.1)]; exact h.2.2.1, h.2.2.2.below hb⟩
theorem done_any (cp cs cl c p z : Nat) (m : List Int) (i : Nat) (w : World) (h : Dn w cp cs cl c p z m) (hm : AllB m) (hz : z < 256) (hi : i ≤ 9223372036854775807) :
    Calls Tryz.prog 146 #[.int .i64 i, .pointer (some ⟨cp, 0, none⟩), .pointer (some ⟨cs, 0, none⟩), .pointer (some ⟨cl, 0, none⟩)] w fun e w' => e = .returned (.int .u8 (dn m p z i)) ∧ ∃ n, w' = w.drewN n := by
  obtain ⟨h1, h2, h3, h4⟩ := h
  have S : Hid (∀ n, Calls Tryz.prog 161 #[.int .i64 i, .pointer (some ⟨c, 0, none⟩)] (w.drewN n) fun e w' => e = .returned (.int .u8 (mb m i)) ∧ ∃ m, w' = (w.drewN n).drewN m) := fun n => said_any c m i (w.drewN n) h4 hi
  have S0 : Hid (Calls Tryz.prog 161 #[.int .i64 i, .pointer (some ⟨c, 0, none⟩)] w fun e w' => e = .returned (.int .u8 (mb m i)) ∧ ∃ m, w' = w.drewN m) := said_any c m i w h4 hi
  have hb := mb_bd hm i
  unfold dn
  generalize mb m i = x at *
  clear h4 hm
  by_cases e : i = p
  · rw [if_pos e]
    subst e
    have e2 : bits .andNot .u8 x (z : Int) = ((x.toNat &&& (255 - z) : Nat) : Int) := by
      have := u8_andNot x z hb.1 (by omega) (by omega) (by omega)
      rwa [Int.toNat_natCast] at this
    clear hb
    generalize ((x.toNat &&& (255 - z) : Nat) : Int) = y at *
    go_enter Tryz.func146, Tryz.ntmps146
    go_wp2
    go_quiet ((go_at_call 161; exact Calls.quiet_of (S.out _)))
    go_wp2
    go_ret
    exact ⟨rfl, _, rfl⟩
  · rw [if_neg e]
    have e2 : ((i : Int) == (p : Int)) = false := by simpa using (show (i : Int) ≠ (p : Int) by omega)
    go_enter Tryz.func146, Tryz.ntmps146
    go_wp2_with (go_at_call 161; refine S0.out.mono ?_; rintro e w1 ⟨rfl, n, hw⟩; obtain rfl := hw.symm)
    go_ret
    exact ⟨rfl, _, rfl⟩
theorem done_tells {w : World} {cp cs cl c p z : Nat} {m : List Int} (h : Dn w cp cs cl c p z m) (hm : AllB m) (hz : z < 256) (n : Nat) (hn : n ≤ 9223372036854775807) :
    Tells w (.func (.func 146) #[] #[.pointer (some ⟨cp, 0, none⟩), .pointer (some ⟨cs, 0, none⟩), .pointer (some ⟨cl, 0, none⟩)]) (dn m p z) n :=
  ⟨146, #[.pointer (some ⟨cp, 0, none⟩), .pointer (some ⟨cs, 0, none⟩), .pointer (some ⟨cl, 0, none⟩)], rfl, fun _ _ => rfl, dn_bd hm p z, fun _ hb i hi => done_any cp cs cl c p z m i _ (h.below hb) hm hz (by omega)⟩
theorem isL_lt {xs ys : List Int} {p z : Nat} (h : IsL xs ys p z) : z < 256 ∧ p ≤ xs.length := by
  rcases h with ⟨rfl, rfl, _⟩ | ⟨t, ht, hp, rfl, _⟩
  · omega
  · have : 2 ^ t ≤ 128 := Nat.pow_le_pow_right (by omega) (show t ≤ 7 by omega)
    omega
theorem dn_laid (w0 : World) (c p z nn : Nat) (m : List Int) (h : Say w0 c m) : Dn ((((w0.alloc (.cells #[.func (.func 161) #[] #[.pointer (some ⟨c, 0, none⟩)]] 210)).drewN nn).alloc (.cells #[.int .i64 p] 3)).alloc (.cells #[.int .u8 z] 5)) (w0.heap.size + 1) w0.heap.size (w0.heap.size + 1 + 1) c p z m ∧
    Below w0.heap.size w0 ((((w0.alloc (.cells #[.func (.func 161) #[] #[.pointer (some ⟨c, 0, none⟩)]] 210)).drewN nn).alloc (.cells #[.int .i64 p] 3)).alloc (.cells #[.int .u8 z] 5)) := by
  have V1 := Var.new w0 (.func (.func 161) #[] #[.pointer (some ⟨c, 0, none⟩)]) 210
  have B1 : Below w0.heap.size w0 (w0.alloc (.cells #[.func (.func 161) #[] #[.pointer (some ⟨c, 0, none⟩)]] 210)) := (Below.refl _ _).alloc (Nat.le_refl _) _
  have z1 : (w0.alloc (.cells #[.func (.func 161) #[] #[.pointer (some ⟨c, 0, none⟩)]] 210)).heap.size = w0.heap.size + 1 := by simp
  generalize w0.alloc (.cells #[.func (.func 161) #[] #[.pointer (some ⟨c, 0, none⟩)]] 210) = w1 at *
  have V2 : Var (w1.drewN nn) w0.heap.size _ := V1
  have B2 := below_drawn B1 nn
  have z2 : (w1.drewN nn).heap.size = w0.heap.size + 1 := z1
  generalize w1.drewN nn = w2 at *
  have V3 := Var.new w2 (.int .i64 p) 3
  have B3 : Below w2.heap.size w2 (w2.alloc (.cells #[.int .i64 p] 3)) := (Below.refl _ _).alloc (Nat.le_refl _) _
  have z3 : (w2.alloc (.cells #[.int .i64 p] 3)).heap.size = w2.heap.size + 1 := by simp
  generalize w2.alloc (.cells #[.int .i64 p] 3) = w3 at *
  have V4 := Var.new w3 (.int .u8 z) 5
  have B4 : Below w3.heap.size w3 (w3.alloc (.cells #[.int .u8 z] 5)) := (Below.refl _ _).alloc (Nat.le_refl _) _
  generalize w3.alloc (.cells #[.int .u8 z] 5) = w4 at *
  rw [z3, z2] at V4
  have BB : Below w0.heap.size w0 w4 := (B2.trans (B3.mono (by omega))).trans (B4.mono (by omega))
  rw [z2] at V3
  exact ⟨⟨(V3.below B4 (by omega)).1, ((V2.below B3 (by omega)).below B4 (by omega)).1, V4.1, h.below BB⟩, BB⟩
theorem fail_any (va vb vm : Value) (xs ys m : List Int) (w : World) (ha : Byt w va xs) (hb : Byt w vb ys) (hm : Byt w vm m) (hl : xs.length = ys.length) (hmax : xs.length ≤ 1048576) :
    Calls Tryz.prog 122 #[va, vb, vm] w fun e w' => ∃ v p z, e = .returned (.tuple #[v, .int .i64 0]) ∧ IsL xs ys p z ∧ Byt w' v (pgl xs ys (dn m p z)) ∧ Below w.heap.size w w' := by
  have SB : Hid (Calls Tryz.prog 144 #[vm] w fun e w' => e = .returned (.func (.func 161) #[] #[.pointer (some ⟨w.heap.size, 0, none⟩)]) ∧ Say w' w.heap.size m ∧ Below w.heap.size w w') := bitsOf_any vm m w hm
  have SL : Hid (∀ w1, Below w.heap.size w w1 → Calls Tryz.prog 145 #[va, vb] w1 fun e w' => ∃ p z : Nat, e = .returned (.tuple #[.int .i64 p, .int .u8 z]) ∧ IsL xs ys p z ∧ ∃ n, w' = w1.drewN n) := fun w1 h => last_any va vb xs ys w1 (ha.below h) (hb.below h) hl
  have SP : Hid (∀ w1 cp cs cl c p z, Dn w1 cp cs cl c p z m → z < 256 → Below w.heap.size w w1 → Calls Tryz.prog 147 #[va, vb, .func (.func 146) #[] #[.pointer (some ⟨cp, 0, none⟩), .pointer (some ⟨cs, 0, none⟩), .pointer (some ⟨cl, 0, none⟩)]] w1 fun e w' => ∃ v, e = .returned v ∧ Byt w' v (pgl xs ys (dn m p z)) ∧ Below w1.heap.size w1 w') := fun w1 cp cs cl c p z h1 h2 h3 => prog_any va vb _ xs ys (dn m p z) w1 (ha.below h3) (hb.below h3) hl hmax (done_tells h1 hm.all h2 _ (by omega))
  obtain ⟨ao, ca, rfl, ha1, ha2, -⟩ := ha
  obtain ⟨bo, cb, rfl, hb1, hb2, -⟩ := hb
  rw [← hl] at hb1 SP SL ⊢
  clear hl hm
  have hmf := makeFn
  have hst := fun (w : World) (a : Addr) (fn : Fn) (x y : Array Value) => run_store Tryz.prog w a (.func fn x y) .plain rfl
  go_enter Tryz.func122, Tryz.ntmps122
  go_wp2_with (first
    | (have q3 := PZ; go_at_call 147; refine (SP.out _ _ _ _ w.heap.size p z (dn_laid w0 w.heap.size p z nn m Y0.out).1 (isL_lt PZ).1 (B0.trans ((dn_laid w0 w.heap.size p z nn m Y0.out).2.mono B0.size))).mono ?_; rintro e w2 ⟨v2, rfl, y2, B2⟩; have Y2 : Hid (Byt w2 v2 (pgl xs ys (dn m p z))) := y2; clear y2)
    | (have q2 := B0; go_at_call 145; refine (SL.out _ (B0.alloc (by have := B0.size; omega) _)).mono ?_; rintro e w1 ⟨p, z, rfl, PZ, nn, hw⟩; obtain rfl := hw.symm)
    | (go_at_call 144; refine SB.out.mono ?_; rintro e w0 ⟨rfl, y0, B0⟩; have Y0 : Hid (Say w0 w.heap.size m) := y0; clear y0))
  go_ret2
  have D := dn_laid w0 w.heap.size p z nn m Y0.out
  exact ⟨_, p, z, rfl, PZ, Y2.out, B0.trans ((D.2.mono B0.size).trans (B2.mono (Nat.le_trans B0.size D.2.size)))⟩
end Go.Proofs.YtakibiigcdgohaaGreatDoor.fa
