/- Copies of records, in memory that may be written. No claim of its own. -/
import Derived.Test.YtmbfccclghnaeaaDoorXYCpy
import Derived.Test.YtmbfccclghnaeaaDoorPackK
namespace Go.Proofs.YtmbfccclghnaeaaDoor.re
open Go.RowKit Go.Proofs.YtmbfccclghnaeaaDoor.fa Go.Proofs.YtmbfccclghnaeaaDoor.he Go.Proofs.YtmbfccclghnaeaaDoor.so
set_option maxRecDepth 20000

/-- the bytes of a record's values lie in blocks from B on that may be written -/
def Cb (B : Nat) (w : World) (a c : Value) (al cl : List Int) (S : Nat → Sc) : Prop := Bow B w a al ∧ Bow B w c cl ∧ ∀ k, k < 4 → Bow B w (S k).v (S k).xs
theorem Cb.below {B : Nat} {w w' : World} {a c : Value} {al cl : List Int} {S : Nat → Sc} (h : Cb B w a c al cl S) (hb : Below w.heap.size w w') : Cb B w' a c al cl S := ⟨h.1.below hb, h.2.1.below hb, fun k hk => (h.2.2 k hk).below hb⟩
theorem Cb.mono {B B' : Nat} {w : World} {a c : Value} {al cl : List Int} {S : Nat → Sc} (h : Cb B w a c al cl S) (hB : B' ≤ B) : Cb B' w a c al cl S := ⟨h.1.mono hB, h.2.1.mono hB, fun k hk => (h.2.2 k hk).mono hB⟩
theorem cb_nob {B : Nat} {w w' : World} {d : Nat} {a c : Value} {al cl : List Int} {S : Nat → Sc} (h : Cb B w a c al cl S) (hn : NoB w d) (hk : ∀ k, k ≠ d → w'.heap[k]? = w.heap[k]?) : Cb B w' a c al cl S := ⟨bow_nob h.1 hn hk, bow_nob h.2.1 hn hk, fun k hk' => bow_nob (h.2.2 k hk') hn hk⟩
theorem d_eq {s r : Sc} (h : s.d = r.d) : s.u = r.u ∧ s.n = r.n ∧ s.e = r.e ∧ s.t = r.t ∧ s.xs = r.xs := by
  have h : Sl.mk s.u s.n s.e s.t s.xs = Sl.mk r.u r.n r.e r.t r.xs := h
  injection h with a1 a2 a3 a4 a5
  exact ⟨a1, a2, a3, a4, a5⟩
theorem rin_cb {B : Nat} {w w' : World} {g p b : Int} {a c a' c' : Value} {al cl : List Int} {S T : Nat → Sc} (h : Rin w g p b a c al cl S) (hc : Cb B w' a' c' al cl T) (hd : ∀ k, k < 4 → (T k).d = (S k).d) : Rin w' g p b a' c' al cl T :=
  ⟨h.1, hc.1.1, hc.2.1.1, fun k hk => ⟨by obtain ⟨_, e1, e2, e3, _⟩ := d_eq (hd k hk); rw [e1, e2, e3]; exact (h.2.2.2 k hk).1, (hc.2.2 k hk).1⟩⟩
theorem copy_cb {g p b : Int} {a c : Value} {al cl : List Int} {S T : Nat → Sc} (w : World) (hR : Rin w g p b a c al cl T) (hd : ∀ k, k < 4 → (T k).d = (S k).d) (hl : lns al cl S 4 ≤ 2000) :
    Calls Tryd.prog 10 #[.agg (rv g p a b c T).toArray] w fun x w' => ∃ so sc ko kc T', x = .returned (.agg (rv g p (.slice so al.length sc) b (.slice ko cl.length kc) T').toArray) ∧ Cb w.heap.size w' (.slice so al.length sc) (.slice ko cl.length kc) al cl T' ∧ (∀ k, k < 4 → (T' k).d = (S k).d) ∧ Below w.heap.size w w' := by
  obtain ⟨h1, h2, h3⟩ := lns_four al cl S hl
  refine (copy_any g p b a c al cl T w hR (by omega) (by omega) (fun k hk => by rw [(d_eq (hd k hk)).2.2.2.2]; have := h3 k hk; omega)).mono ?_
  rintro _ w' ⟨so, sc, ko, kc, T', e, y1, y2, y3, hb⟩
  exact ⟨so, sc, ko, kc, T', e, ⟨y1, y2, fun k hk => (y3 k hk).2⟩, fun k hk => (y3 k hk).1.trans (hd k hk), hb⟩
end Go.Proofs.YtmbfccclghnaeaaDoor.re
