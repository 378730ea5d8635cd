/- A record's bytes tell the record; their tag fits. No claim of its own. -/
import Derived.Test.YtmbfccclghnaeaaDoorPackJ
import Derived.Test.YtmbfccclghnaeaaDoorPackR
namespace Go.Proofs.YtmbfccclghnaeaaDoor.re
open Go.RowKit Go.Proofs.YtmbfccclghnaeaaDoor.fa Go.Proofs.YtmbfccclghnaeaaDoor.he Go.Proofs.YtmbfccclghnaeaaDoor.so
set_option maxRecDepth 20000

theorem sw_bs (s : Sl) (h : s.ok) (hS : Sb s.n s.e s.t) : sw s.bs = s ∧ Sok s.bs := by
  obtain ⟨u, n, e, t, ws⟩ := s
  cases u
  · obtain ⟨h1, h2, h3, h4⟩ : n = 0 ∧ e = 0 ∧ t = 0 ∧ ws.length = 0 := h
    subst h1 h2 h3
    have hx : ws = [] := List.eq_nil_of_length_eq_zero h4
    subst hx
    have e : Sl.bs ⟨false, 0, 0, 0, []⟩ = List.replicate 128 0 := rfl
    rw [e]
    exact ⟨if_pos rfl, .inl rfl⟩
  · obtain ⟨h1, h2, h3⟩ : 1 ≤ n ∧ n ≤ 65535 ∧ ws.length = 104 := h
    have hb : Sl.bs ⟨true, n, e, t, ws⟩ = sbt n e t ws := rfl
    have g := g_sbt (ws := ws) (n := n) (e := e) (t := t) ⟨by omega, by omega⟩ hS.2.1 hS.2.2 h3
    have hu : Ur (sbt n e t ws) := ⟨rfl, rfl, rfl, rfl, by rw [g.1]; exact h1, by rw [g.1]; exact h2⟩
    rw [hb]
    refine ⟨?_, .inr hu⟩
    unfold sw
    rw [if_neg (ur_not hu), g.1, g.2.1, g.2.2.1, g.2.2.2]
theorem rec_back' {g p b : Int} {al cl : List Int} {S : Nat → Sc} (hU : U64 g ∧ U64 p ∧ U64 b) (hS : ∀ k, k < 4 → Sb (S k).n (S k).e (S k).t) (h : Rok al cl S) (ks : List Int) :
    Isr (rbs g p al b cl S ks) ∧ qg (rbs g p al b cl S ks) = g ∧ qp (rbs g p al b cl S ks) = p ∧ qb (rbs g p al b cl S ks) = b ∧ re.qs (rbs g p al b cl S ks) = al ∧ re.qc (rbs g p al b cl S ks) = cl ∧ (∀ k, k < 4 → sw (qw (rbs g p al b cl S ks) k) = (S k).d) ∧
      (rbs g p al b cl S ks).drop 592 = mc.tagB (mc.blk ks) ((rbs g p al b cl S ks).take 592) := by
  obtain ⟨e0, e1, e2, e3, e4, e5, e6, e7, e8, e9⟩ := q_bs (rok_ok (g := g) (p := p) (b := b) h) hU.1 hU.2.1 hU.2.2 (mc.tagB (mc.blk ks) (RC g p al b cl S).bs)
  have e6 : qw (rbs g p al b cl S ks) 0 = (S 0).d.bs := e6
  have e7 : qw (rbs g p al b cl S ks) 1 = (S 1).d.bs := e7
  have e8 : qw (rbs g p al b cl S ks) 2 = (S 2).d.bs := e8
  have e9 : qw (rbs g p al b cl S ks) 3 = (S 3).d.bs := e9
  have hs : ∀ k, k < 4 → sw (S k).d.bs = (S k).d ∧ Sok (S k).d.bs := fun k hk => sw_bs _ (h.2.2 k hk) (hS k hk)
  refine ⟨⟨e4, four ?_ ?_ ?_ ?_⟩, e0, e1, e3, e2, e5, four ?_ ?_ ?_ ?_, ?_⟩
  · rw [e6]; exact (hs 0 (by omega)).2
  · rw [e7]; exact (hs 1 (by omega)).2
  · rw [e8]; exact (hs 2 (by omega)).2
  · rw [e9]; exact (hs 3 (by omega)).2
  · rw [e6]; exact (hs 0 (by omega)).1
  · rw [e7]; exact (hs 1 (by omega)).1
  · rw [e8]; exact (hs 2 (by omega)).1
  · rw [e9]; exact (hs 3 (by omega)).1
  · have := Rc.take (rok_ok (g := g) (p := p) (b := b) h) (mc.tagB (mc.blk ks) (RC g p al b cl S).bs)
    unfold rbs
    rw [this.1, this.2]
theorem run_brec3 (w : World) (a c : Value) (ha : Slc a) (hc : Slc c) : (Instr.build 39 #[(0, .int .u64 1), (2, a), (4, c)]).run Tryd.prog w = .ok (.agg (rv 1 0 a 0 c z4).toArray) w := by
  obtain ⟨-, -, -, ao, m, cap, rfl⟩ := ha
  obtain ⟨-, -, -, co, n, cap', rfl⟩ := hc
  kernel_rfl
/-- the keys, as the reference derives them -/
theorem rkeys (pv sv : Value) (ps ss : List Int) (n : Nat) (w : World) (hp : Byt w pv ps) (hs : Byt w sv ss) (h1 : ps.length ≤ 64) (h2 : ss.length ≤ 1000) (h3 : 1 ≤ n) (h4 : n ≤ 1000) :
    Calls Tryd.prog 25 #[pv, sv, .int .i64 (n : Int), .int .i64 96] w fun x w' => ∃ yo yc, x = .returned (.slice yo 96 yc) ∧ Byt w' (.slice yo 96 yc) (mc.drv (mc.blk ps) ss n 96) ∧ Below w.heap.size w w' :=
  (mc.rbytes_any w pv sv ps ss n 96 hp hs (by omega) h2 h3 h4 (by omega)).mono fun _ _ ⟨v, e, y, hb⟩ => by
    obtain ⟨yo, yc, rfl⟩ := byt_form y (mc.drv_len _ _ _ _)
    exact ⟨yo, yc, e, y, hb⟩
end Go.Proofs.YtmbfccclghnaeaaDoor.re
