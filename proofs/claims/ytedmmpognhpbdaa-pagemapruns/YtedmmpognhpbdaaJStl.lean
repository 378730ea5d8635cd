/- What pagemap's stale answers. No claim of its own. -/
import Derived.Test.YtedmmpognhpbdaaJCmp
namespace Go.Proofs.Ytedmmpognhpbdaa.pm
open Go.RowKit Go.Proofs.Ytedmmpognhpbdaa.he
set_option maxRecDepth 20000

/-- a row of the call's own, not nil -/
def Os (B : Nat) (w : World) (v : Value) (l : List PL) : Prop := ∃ g cap, v = .slice (some ⟨g, 0, none⟩) l.length cap ∧ Ow B w v l
theorem Os.below {B : Nat} {w w' : World} {v : Value} {l : List PL} (h : Os B w v l) (hb : Below w.heap.size w w') : Os B w' v l := by
  obtain ⟨g, cap, e, h1, h2⟩ := h
  refine ⟨g, cap, e, h1, ?_⟩
  rcases h2 with h2 | ⟨g', cap', cur, e', hB, hh, h3⟩
  · exact .inl h2
  · exact .inr ⟨g', cap', cur, e', hB, (hb.block g' (Array.getElem?_eq_some_iff.1 hh).1).trans hh, h3⟩
/-- which block is a row's -/
def Blk (v : Value) (k : Nat) : Prop := v.ownBlock = some k
theorem Os.ch {B : Nat} {w w' : World} {v : Value} {l : List PL} {P : Nat → Prop} (h : Os B w v l) (hb : Ch P w w') (hp : ∀ k, Blk v k → ¬ P k) : Os B w' v l := by
  obtain ⟨g, cap, e, h1, h2⟩ := h
  refine ⟨g, cap, e, h1, ?_⟩
  rcases h2 with h2 | ⟨g', cap', cur, e', hB, hh, h3⟩
  · exact .inl h2
  · exact .inr ⟨g', cap', cur, e', hB, (hb.block g' (Array.getElem?_eq_some_iff.1 hh).1 (hp g' (by rw [e']; rfl))).trans hh, h3⟩
theorem Os.low {B : Nat} {w : World} {v : Value} {l : List PL} (h : Os B w v l) {k : Nat} (hk : Blk v k) : B ≤ k ∧ k < w.heap.size := by
  obtain ⟨g, cap, rfl, h1⟩ := h
  cases hk
  exact ⟨(ow_row h1).2.1, (ow_row h1).2.2.1⟩
theorem box_law1 {ops : Array Oper} {rest : List Oper} {a : Act} {Q : Exit → Act → World → Prop} {d : Option Tmp} {x : Operand} {t ty : TypeId} {pos : String} {af : Array Edge} (w : World) (v : Value) (hx : a.eval x = v) (hc : v.cells = #[v])
    (hK : ∀ w', Vr w' w.heap.size [v] → Below w.heap.size w w' → w.heap.size < w'.heap.size → wpList Try.prog ops Q rest (a.put d (.pointer (some ⟨w.heap.size, 0, none⟩))) w') :
    wpList Try.prog ops Q (⟨d, Op.box t x, ty, pos, af, none⟩ :: rest) a w := by
  refine wpList_plain rfl fun K hK' => ?_
  unfold Oper.wp
  simp [execOp, hx, Instr.box, newVar, newRow, hc, Result.andThen]
  exact hK' _ _ (hK _ (Vr.new w t [v]) ((Below.refl _ _).alloc (Nat.le_refl _) _) (by simp))
theorem stale1_any (bx : Nat) (v : Value) (d s : Nat → Nat) (f : Nat → Nat → Sp) (g : Int × Int → Int) (p : PL) (w : World) (hb : w.cell? ⟨bx, 0, none⟩ = some v) (h : Pq w v s d f g) : Calls Try.prog 56 #[.agg (pc p).toArray, pt bx] w fun e w' => e = .returned (.bool (decide (0 < g p))) ∧ Below w.heap.size w w' := by
  have S : Hid (∀ W, Below w.heap.size w W → Calls Try.prog 11 #[v, .agg (pc p).toArray] W fun e w' => e = .returned (.int .i64 (g p)) ∧ Below W.heap.size W w') := fun W hW => refs_any v d s f g p W (h.below hW)
  have HB : Hid (w.cell? ⟨bx, 0, none⟩ = some v) := hb
  generalize g p = r at S ⊢
  clear h
  have t0 : (0 : Nat) = 0 := rfl
  go_enter Try.func56, Try.ntmps56
  go_wp2_with (first
    | (have qq := t1; go_at_call 11; refine (S.out _ BB.out).mono ?_; rintro e w3 ⟨rfl, B3⟩; have BB : Hid (Below w.heap.size w w3) := BB.out.trans (B3.mono BB.out.size); clear B3 t1)
    | (have qq := t0; refine box_lawC _ (pc p) rfl ?_; intro w1 X1 B1 l1; have p0 := X1.cell 0 _ rfl; have p1 := X1.cell 1 _ rfl; have hb := (by rw [B1.cell (World.block_lt_of_cell? w _ HB.out)]; exact HB.out : w1.cell? ⟨bx, 0, none⟩ = some v); have BB : Hid (Below w.heap.size w w1) := B1; clear B1 X1 t0; have t1 : (0 : Nat) = 0 := rfl))
  go_ret
  exact ⟨rfl, BB.out⟩
theorem delfn_any (g cap : Nat) (L : List PL) (q : PL → Bool) (bx : Nat) (w : World) (hR : Rl w g L) (hg : g < w.heap.size) (hn : L.length ≤ 100000) (hc : L.length ≤ cap) (hq : Tl (fun W => Ch (fun k => k = g) w W) bx q) : Calls Try.prog 55 #[.slice (some ⟨g, 0, none⟩) L.length cap, .func (.func 56) #[] #[pt bx]] w fun e w' => ∃ R : List PL, e = .returned (.slice (some ⟨g, 0, none⟩) R.length cap) ∧ R = L.filter (fun x => !q x) ∧ Rl w' g R ∧ Ch (fun k => k = g) w w' := by
  by_cases ha : ∀ x ∈ L, q x = false
  · refine (delete_no g cap L q bx w hR hg hn hq ha).mono ?_
    rintro e w' ⟨rfl, hb⟩
    exact ⟨L, rfl, (filt_all ha).symm, hR.below hb, Ch.of_below hb⟩
  · exact delete_yes g cap L q bx w hR hg hn hc hq ha
/-- those of l that are not live any more, in order, each once -/
def St (g : PL → Int) (l R : List PL) : Prop := ∃ L' : List PL, L'.Perm (l.filter (fun p => !decide (0 < g p))) ∧ L'.Pairwise (fun a b => ltp b a = false) ∧ R = dn L' L'.length
theorem dn_len (L : List PL) : ∀ n, (dn L n).length ≤ n
  | 0 => Nat.le_refl _
  | n + 1 => by
    have := dn_len L n
    unfold dn
    split
    · omega
    · rw [List.length_append]; simp; omega
set_option maxHeartbeats 4000000 in
theorem stale_any (B c : Nat) (d s : Nat → Nat) (f : Nat → Nat → Sp) (rb : Option Nat) (g : PL → Int) (v : Value) (l : List PL) (w : World) (h : Pm w c d s f rb g) (hl : Os B w v l) (hn : l.length ≤ 100000) (hd : ∀ k, Blk v k → ¬ Own4 c d s rb k) : Calls Try.prog 47 #[pt c, v] w fun e w' => ∃ v' R, e = .returned v' ∧ Pls w' v' R ∧ St g l R ∧ Ch (Blk v) w w' := by
  obtain ⟨G, cap, rfl, ho⟩ := hl
  obtain ⟨hr, hB, hG, _, hc, hm⟩ := ow_row ho
  have HP : Hid (Pm w c d s f rb g) := h
  have HD : Hid (∀ k, Own4 c d s rb k → k ≠ G) := fun k hk e => hd k (by rw [e]; rfl) hk
  have HR : Hid (Rl w G l) := hr
  have HG : Hid (G < w.heap.size) := hG
  have HC : Hid (l.length ≤ cap) := hc
  have HM : Hid (cap ≤ maxLen) := hm
  have HN : Hid (l.length ≤ 100000) := hn
  obtain ⟨n, hN⟩ : ∃ n, n = l.length := ⟨_, rfl⟩
  rw [← hN]
  have NN : Hid (n = l.length) := hN
  clear h hd hr hG hc hm hB ho hn hN
  have t0 : (0 : Nat) = 0 := rfl
  go_enter Try.func47, Try.ntmps47
  go_wp2_with (first
    | (have qq := t3; go_at_call 58; refine (compact_any G cap L2 _ HR2.out (by have := HS.out.1.length_eq; have := HF.out; have := List.length_filter_le (fun p => !decide (0 < g p)) l; have := HN.out; rw [HF.out] at *; omega) (by have := HS.out.1.length_eq; have := List.length_filter_le (fun p => !decide (0 < g p)) l; have := HC.out; rw [HF.out] at *; omega)).mono ?_; rintro e w4 ⟨R3, rfl, hR3, r4, c4⟩; have HR3 : Hid (Rl w4 G R3) := r4; have H3 : Hid (R3 = dn L2 L2.length) := hR3; have HCh : Hid (Ch (fun k => k = G) w w4) := HCh.out.trans c4; clear r4 hR3 c4 t3)
    | (have qq := t2; go_at_call 57; refine (sort_any G cap R1 _ HR1.out GL.out (by have := List.length_filter_le (fun p => !decide (0 < g p)) l; have := HN.out; rw [HF.out]; omega)).mono ?_; rintro e w3 ⟨rfl, L2, p3, s3, r3, c3⟩; have HR2 : Hid (Rl w3 G L2) := r3; have HS : Hid (L2.Perm R1 ∧ L2.Pairwise (fun a b => ltp b a = false)) := ⟨p3, s3⟩; have HCh : Hid (Ch (fun k => k = G) w w3) := HCh.out.trans c3; have EL := p3.length_eq.symm; clear r3 p3 s3 c3 t2; have t3 : (0 : Nat) = 0 := rfl)
    | (have qq := t1; go_at_call 55; refine (SD.out).mono ?_; rintro e w2 ⟨R1, rfl, hf, r2, c2⟩; have HR1 : Hid (Rl w2 G R1) := r2; have HF : Hid (R1 = l.filter (fun p => !decide (0 < g p))) := hf; have GL : Hid (G < w2.heap.size) := Nat.lt_of_lt_of_le (Nat.lt_of_lt_of_le HG.out HB1.out.size) c2.size; have HCh : Hid (Ch (fun k => k = G) w w2) := (Ch.of_below HB1.out).trans c2; clear r2 hf c2 SD t1; have t2 : (0 : Nat) = 0 := rfl)
    | (have qq := t0; refine box_law1 _ (pt c) rfl rfl ?_; intro w1 X1 B1 l1; have HB1 : Hid (Below w.heap.size w w1) := B1; have hmf : ∀ W, (Instr.makeFunc (.func 56) #[] #[pt w.heap.size]).run Try.prog W = .ok (.func (.func 56) #[] #[pt w.heap.size]) W := (fun _ => rfl); have SD : Hid (Calls Try.prog 55 #[.slice (some ⟨G, 0, none⟩) n cap, .func (.func 56) #[] #[pt w.heap.size]] w1 fun e w' => ∃ R : List PL, e = .returned (.slice (some ⟨G, 0, none⟩) R.length cap) ∧ R = l.filter (fun p => !decide (0 < g p)) ∧ Rl w' G R ∧ Ch (fun k => k = G) w1 w') := (by rw [NN.out]; exact delfn_any G cap l _ w.heap.size w1 (HR.out.below B1) (Nat.lt_of_lt_of_le HG.out B1.size) HN.out HC.out (fun W hW p => stale1_any w.heap.size (pt c) d s f g p W (by rw [World.cell?_of_block (w := w1) (w' := W) (a := ⟨w.heap.size, 0, none⟩) (hW.block _ l1 (by have := HG.out; show ¬ w.heap.size = G; omega))]; exact X1.cell 0 _ rfl) (.inr ⟨c, rb, rfl, (HP.out.below B1).ch hW (HD.out)⟩))); clear B1 X1 t0; have t1 : (0 : Nat) = 0 := rfl))
  go_ret
  refine ⟨_, R3, rfl, ⟨_, cap, rfl, ?_, HM.out, fun _ => ⟨G, rfl, HR3.out⟩⟩, ⟨L2, by rw [← HF.out]; exact HS.out.1, HS.out.2, H3.out⟩, HCh.out.weak fun k _ e => by rw [e]; rfl⟩
  have h1 := dn_len L2 L2.length
  have h2 := HS.out.1.length_eq
  have h3 := List.length_filter_le (fun p => !decide (0 < g p)) l
  rw [H3.out]
  rw [HF.out] at h2
  have := HC.out
  omega
end Go.Proofs.Ytedmmpognhpbdaa.pm
