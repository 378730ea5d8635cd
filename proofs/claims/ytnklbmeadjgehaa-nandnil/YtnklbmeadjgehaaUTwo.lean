/- Faults, their copies, and copies of these: what is known of them while the bytes of the first copies' masks are written. No claim of its own. -/
import Derived.Test.YtnklbmeadjgehaaUWr
namespace Go.Proofs.Ytnklbmeadjgehaa.fa
open Go.RowKit
set_option maxRecDepth 20000

/-- copies are faults -/
theorem cop_fls {B : Nat} {w : World} {fs gs : List (Int × Bool × Value)} {ms : Nat → List Int} {g cap : Nat} {ao : Option Addr} (h : Cop B w g fs.length fs.length fs gs ms) (h1 : fs.length ≤ cap) (h2 : cap ≤ 9223372036854775807) (h3 : ao = none → cap = 0) (h4 : 0 < fs.length → ao = some ⟨g, 0, none⟩) (hb : ∀ t, t < fs.length → (ms t).length ≤ 140737488355328) :
    Fls w (.slice ao fs.length cap) gs ∧ Mks w gs ms := by
  obtain ⟨c1, c2, c3, c4, c5⟩ := h
  refine ⟨⟨ao, cap, by rw [c1], by omega, h2, h3, fun hp => ⟨g, 0, h4 (by omega), fun t ht => by rw [Nat.zero_add]; exact c2 t (by omega)⟩⟩, fun t ht => ⟨(c4 t (by omega) (by omega)).2.2.1, hb t (by omega)⟩⟩

/-- of each of n faults: it lies in block b ahead of B; its copy in row g, its mask from B on and ahead of H; the copy's copy in row q, all from H on -/
def Two (B H : Nat) (w wd : World) (b off g q n : Nat) (fs gs hs : List (Int × Bool × Value)) (ms : Nat → List Int) : Prop := Below B w wd ∧ B = w.heap.size ∧ ∀ t, t < n →
  (FlA wd b (off + t * 3) (gf fs t) ∧ b < B ∧ Byt w (gf fs t).2.2 (ms t)) ∧
  (FlA wd g (t * 3) (gf gs t) ∧ Bow B wd (gf gs t).2.2 (ms t) ∧ ∀ b' off' mc, (gf gs t).2.2 = .slice (some ⟨b', off', none⟩) (ms t).length mc → 0 < (ms t).length → b' < H) ∧
  (FlA wd q (t * 3) (gf hs t) ∧ H ≤ q ∧ Bow H wd (gf hs t).2.2 (ms t) ∧ (gf hs t).1 = (gf fs t).1 ∧ (gf hs t).2.1 = (gf fs t).2.1)

theorem two_mk {w w2 w3 wd : World} {b off g q n : Nat} {fs gs hs : List (Int × Bool × Value)} {ms : Nat → List Int} (hn : fs.length = n) (hl : ∀ t, t < n → FlA w b (off + t * 3) (gf fs t)) (hm : Mks w fs ms) (B2 : Below w.heap.size w w2) (B3 : Below w2.heap.size w2 w3) (B4 : Below w3.heap.size w3 wd)
    (C1 : Cop w2.heap.size w3 g n n fs gs ms) (C2 : Cop w3.heap.size wd q n n gs hs ms) (hq : 0 < n → w3.heap.size ≤ q) : Two w.heap.size w3.heap.size w wd b off g q n fs gs hs ms := by
  have z2 := B2.size
  have z3 := B3.size
  have BB : Below w.heap.size w wd := (B2.trans (B3.mono z2)).trans (B4.mono (by omega))
  refine ⟨BB, rfl, fun t ht => ?_⟩
  have f1 := hl t ht
  have lb := f1.lt
  obtain ⟨c1, c2, c3, c4, c5⟩ := C1
  obtain ⟨d1, d2, d3, d4, d5⟩ := C2
  have k1 := c4 t ht ht
  have k2 := d4 t ht ht
  refine ⟨⟨f1.below BB lb, lb, (hm t (by omega)).1⟩, ⟨(c2 t ht).below B4 (c2 t ht).lt, (k1.2.2.below B4).mono z2, fun b' off' mc e hp => ?_⟩, d2 t ht, hq (by omega), k2.2.2, k2.1.trans k1.1, k2.2.1.trans k1.2.1⟩
  have hy := k1.2.2.1
  rw [e] at hy
  obtain ⟨ao, cap, e2, _, _, _, _, h5⟩ := hy
  cases e2
  obtain ⟨b'', off'', e3, hc⟩ := h5 hp
  cases e3
  exact World.block_lt_of_cell? w3 _ (hc 0 hp)

/-- one fault of them, in all worlds that come -/
theorem two_at {B H : Nat} {w wd : World} {b off g q n : Nat} {fs gs hs : List (Int × Bool × Value)} {ms : Nat → List Int} (h : Two B H w wd b off g q n fs gs hs ms) {t : Nat} (ht : t < n) :
    ∃ x cr lo lc mo mc dq dc, ∀ wr, Wr B H wd wr → FlA wr b (off + t * 3) (x, cr, .slice lo (ms t).length lc) ∧ wr.cell? ⟨g, t * 3 + 2, none⟩ = some (.slice mo (ms t).length mc) ∧ FlA wr q (t * 3) (x, cr, .slice dq (ms t).length dc) ∧
      Byt wr (.slice lo (ms t).length lc) (ms t) ∧ Byt wr (.slice dq (ms t).length dc) (ms t) ∧
      (0 < (ms t).length → ∃ b' off', mo = some ⟨b', off', none⟩ ∧ ∀ j, j < (ms t).length → ∃ y, wr.cell? ⟨b', off' + j, none⟩ = some (.int .u8 y) ∧ wr.frozen? ⟨b', off' + j, none⟩ = false ∧ ∀ z, Wr B H wd (wr.setCell ⟨b', off' + j, none⟩ (.int .u8 z))) := by
  obtain ⟨BB, rfl, hh⟩ := h
  obtain ⟨⟨l1, l2, l3⟩, ⟨c1, c2, c3⟩, d1, d2, d3, d4, d5⟩ := hh t ht
  obtain ⟨lo, lc, el⟩ := byt_form l3
  obtain ⟨mo, mc, em⟩ := byt_form c2.1
  obtain ⟨dq, dc, ed⟩ := byt_form d3.1
  refine ⟨(gf fs t).1, (gf fs t).2.1, lo, lc, mo, mc, dq, dc, fun wr hw => ⟨?_, ?_, ?_, ?_, ?_, fun hp => ?_⟩⟩
  · have := l1.below hw.1 l2
    rw [show gf fs t = ((gf fs t).1, (gf fs t).2.1, (gf fs t).2.2) from rfl, el] at this
    exact this
  · have := hw.2.2.1 _ _ c1.2.2 (byt_no_u8 c2.1)
    rw [em] at this
    exact this
  · have := hw.up d1 d2
    rw [show gf hs t = ((gf hs t).1, (gf hs t).2.1, (gf hs t).2.2) from rfl, d4, d5, ed] at this
    exact this
  · rw [← el]
    exact l3.below (BB.trans hw.1)
  · rw [← ed]
    exact hw.bow d3
  · obtain ⟨mo', mc', e, _, _, hmm⟩ := hw.mask c2
    rw [em] at e
    cases e
    obtain ⟨b', off', rfl, hB, _, hj⟩ := hmm hp
    refine ⟨b', off', rfl, fun j hjl => ?_⟩
    obtain ⟨⟨y, hy⟩, hf⟩ := hj j hjl
    exact ⟨y, hy, hf, fun z => hw.set hy hB (c3 b' off' mc em hp) z⟩
end Go.Proofs.Ytnklbmeadjgehaa.fa
