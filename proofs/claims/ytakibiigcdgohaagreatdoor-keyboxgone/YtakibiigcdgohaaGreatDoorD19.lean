/- Parts of the proof: what KeyboxGone reaches. No claim of its own. -/
import Derived.WalkKit
import Derived.Deep.QuietTactic
import Derived.Deep.RegionHeld3
import Derived.Deep.WholeRow
import Derived.Deep.MidRow
import Derived.Laws.StructEq
import Derived.Lib.AppendZeros
import Derived.Lib.SliceRun
import Derived.Lib.MakeNoZero
import Derived.Deep.DeepCutAuto
import Derived.ArgAppend
import Derived.WalkSmall
import Derived.ProofKit
import Derived.OpenShut
import Derived.BigQuiet
import Derived.Laws.AppendOwnNone
import Derived.Deep.DeepHandedRow
import Derived.Lib.LaidTab
import Derived.Deep.Matrix
import Derived.Deep.LoopGhost
import Derived.Deep.Slices
import Derived.Test.YtakibiigcdgohaaGreatDoorD00
import Derived.Test.YtakibiigcdgohaaGreatDoorD01
import Derived.Test.YtakibiigcdgohaaGreatDoorD02
import Derived.Test.YtakibiigcdgohaaGreatDoorD03
import Derived.Test.YtakibiigcdgohaaGreatDoorD04
import Derived.Test.YtakibiigcdgohaaGreatDoorD05
import Derived.Test.YtakibiigcdgohaaGreatDoorD06
import Derived.Test.YtakibiigcdgohaaGreatDoorD07
import Derived.Test.YtakibiigcdgohaaGreatDoorD08
import Derived.Test.YtakibiigcdgohaaGreatDoorD09
import Derived.Test.YtakibiigcdgohaaGreatDoorD10
import Derived.Test.YtakibiigcdgohaaGreatDoorD11
import Derived.Test.YtakibiigcdgohaaGreatDoorD12
import Derived.Test.YtakibiigcdgohaaGreatDoorD13
import Derived.Test.YtakibiigcdgohaaGreatDoorD14
import Derived.Test.YtakibiigcdgohaaGreatDoorD15
import Derived.Test.YtakibiigcdgohaaGreatDoorD16
import Derived.Test.YtakibiigcdgohaaGreatDoorD17
import Derived.Test.YtakibiigcdgohaaGreatDoorD18
set_option maxHeartbeats 8000000
namespace Go.Proofs.YtakibiigcdgohaaGreatDoor.vb
open Go.RowKit Go.Proofs.YtakibiigcdgohaaGreatDoor.fa Go.Proofs.YtakibiigcdgohaaGreatDoor.he Go.Proofs.YtakibiigcdgohaaGreatDoor.pa Go.Proofs.YtakibiigcdgohaaGreatDoor.ck
set_option maxRecDepth 20000
def lps (S : Nat) (xs : List Int) (gen : Int) : List (List Int) := kps S xs gen (List.replicate 8 255)
def dcs (pg : Nat → Int) (vs : Nat → Value) (n : Nat) : List (List Value) := (List.range n).map fun i => [.int .i64 (pg i), vs i]
theorem dcs_len (pg : Nat → Int) (vs : Nat → Value) (n : Nat) : (dcs pg vs n).length = n := by simp [dcs]
theorem dcs_succ (pg : Nat → Int) (vs : Nat → Value) (n : Nat) : dcs pg vs (n + 1) = dcs pg vs n ++ [[.int .i64 (pg n), vs n]] := by simp [dcs, List.range_succ]
theorem dcs_congr {pg pg' : Nat → Int} {vs vs' : Nat → Value} {n : Nat} (h : ∀ i, i < n → pg i = pg' i ∧ vs i = vs' i) : dcs pg vs n = dcs pg' vs' n := by
  unfold dcs
  refine List.map_congr_left fun i hi => ?_
  obtain ⟨h1, h2⟩ := h i (List.mem_range.1 hi)
  rw [h1, h2]
def Dds (B : Nat) (w : World) (v : Value) (T : Nat) (l : List (List Int)) : Prop := ∃ vs : Nat → Value, na.OwR B w v 137 2 (dcs (fun i => (wpl l i : Int)) vs (l.length + 1)) ∧ ∀ i, i < l.length + 1 → Own B w (vs i) (wth T l i)
section
variable {ops : Array Oper} {rest : List Oper} {o : Oper} {a : Act} {Q : Exit → Act → World → Prop}
theorem pushD_law (w : World) (hg : o.guard = none) (s x : Operand) (hop : o.op = .call { callee := .builtin .append, args := #[s, x], argTypes := #[102, 102] })
    (B : Nat) (hB : B ≤ w.heap.size) (v : Value) (es : List (List Value)) (y : List Value) (ad : Addr) (cap : Nat) (hs : a.eval s = v) (hx : a.eval x = .slice (some ad) 1 cap) (hown : na.OwR B w v 137 2 es) (hy : y.length = 2)
    (h6 : ∀ j u, y[j]? = some u → w.cell? (ad.add j) = some u) (h1 : ∀ u ∈ y, u.oneCell' = true) (hn : es.length ≤ 1000)
    (hK : ∀ v' w', na.OwR B w' v' 137 2 (es ++ [y]) → Below B w w' → wpList Tryz.prog ops Q rest (a.put o.dst v') w') :
    wpList Tryz.prog ops Q (o :: rest) a w := by
  obtain ⟨i0, hi, hz0, hz1, hz2⟩ := info_parts (show (Tryz.prog.info? 137).map (fun i => (i.zero, i.size, i.bytes)) = some (some (.agg #[.int .i64 0, .slice none 0 0]), 2, 32) by kernel_rfl)
  refine wpList_append_own _ hg s x 102 hop B 137 i0 _ 2 32 Tryz.underlying102 hi hz0 hz1 hz2 rfl (by decide) v es.length es.flatten hs hown.1 ad 1 cap y hx hy h6 h1 (by simp only [maxLen]; omega) (by omega) hB fun v' w' O1 G1 _ => ?_
  refine hK v' w' ⟨?_, fun t ht => ?_⟩ ((Below.refl B w).grown G1 hB fun k hk => (World.ownsRow.lt hown.1 k hk).1)
  · rw [List.length_append, List.flatten_append]
    simpa using O1
  · rw [List.length_append] at ht
    by_cases e : t < es.length
    · have := hown.2 t e
      rw [← this]
      simp [na.el, List.getD, List.getElem?_append_left e]
    · have e : t = es.length := by have : [y].length = 1 := rfl; omega
      subst e
      simp [na.el, List.getD, hy]
end
theorem one_new (w : World) (t : TypeId) (cs : List Value) (j : Nat) (u : Value) (h : cs[j]? = some u) : (w.alloc (.cells cs.toArray t)).cell? (Addr.add ⟨w.heap.size, 0, none⟩ j) = some u := by
  have := (Vr.new w t cs).cell j u h
  have e : Addr.add ⟨w.heap.size, 0, none⟩ j = ⟨w.heap.size, j, none⟩ := by
    unfold Addr.add
    simp
    intro h; rw [h]
  rw [e]
  exact this
theorem lps_len (S : Nat) (xs : List Int) (gen : Int) : (lps S xs gen).length = nc S := kps_len _ _ _ _
theorem wth_page {T S : Nat} {xs : List Int} {gen : Int} {i : Nat} (hi : i < nc S) : wth T (lps S xs gen) i = P255 S xs gen i := by
  unfold wth
  rw [lps_len, if_pos hi]
  exact kps_255 S xs gen i hi
theorem wth_mark {T S : Nat} {xs : List Int} {gen : Int} : wth T (lps S xs gen) (nc S) = he.mark T := by
  unfold wth
  rw [lps_len, if_neg (Nat.lt_irrefl _)]
theorem wth_all {T S : Nat} {xs : List Int} {gen : Int} (h1 : 32 ≤ S) (h2 : S ≤ 4096) (ha : AllB xs) (i : Nat) (hi : i < nc S + 1) : AllB (wth T (lps S xs gen) i) := by
  by_cases e : i < nc S
  · rw [wth_page e]
    exact p255_all h1 h2 e ha
  · rw [show i = nc S by omega, wth_mark]
    exact mark_all T
theorem wth_len {S : Nat} {xs : List Int} {gen : Int} (h1 : 32 ≤ S) (h2 : S ≤ 4096) (hl : xs.length = 624) (i : Nat) (hi : i < nc S + 1) : (wth (S + 88) (lps S xs gen) i).length = S + 88 := by
  by_cases e : i < nc S
  · rw [wth_page e]
    exact pgk_len h1 h2 hl e (by simp)
  · rw [show i = nc S by omega, wth_mark]
    exact mark_len _ (by omega)
theorem wpl_page {S : Nat} {xs : List Int} {gen : Int} {i : Nat} (hi : i < nc S) : wpl (lps S xs gen) i = i := by
  unfold wpl
  rw [lps_len]
  omega
theorem wpl_mark {S : Nat} {xs : List Int} {gen : Int} : wpl (lps S xs gen) (nc S) = nc S - 1 := by
  unfold wpl
  rw [lps_len]
  omega
theorem ownr_less {w : World} {B B' n k : Nat} {v : Value} {e : TypeId} {xs : List Value} (h : w.ownsRow B e k v n xs) (hB : B' ≤ B) : w.ownsRow B' e k v n xs := by
  refine ⟨h.1, ?_⟩
  rcases h.2 with q | ⟨g, cap, cur, q1, q2, q3⟩
  · exact .inl q
  · exact .inr ⟨g, cap, cur, q1, Nat.le_trans hB q2, q3⟩
theorem own_sl {B : Nat} {w : World} {v : Value} {xs : List Int} (h : Own B w v xs) (ha : AllB xs) : ∃ ao cap, v = .slice ao xs.length cap := pa.own_form h ha
theorem deeds_yes (g0 g1 g3 g4 g5 : Int) (S : Nat) (v : Value) (xs : List Int) (gen : Int) (w : World) (hr : ge.Rt [g0, g1, (S : Int), g3, g4, g5]) (hb : Byt w v xs) (hl : xs.length = 624) (ha : AllB xs) (hg : 0 ≤ gen ∧ gen ≤ 18446744073709551615) (hT : Tab w) :
    Calls Tryz.prog 45 #[.agg (ints .i64 [g0, g1, (S : Int), g3, g4, g5]), v, .int .u64 gen] w fun x w' => ∃ dv, x = .returned (.tuple #[dv, .int .i64 0]) ∧ Dds w.heap.size w' dv (S + 88) (lps S xs gen) ∧ Below w.heap.size w w' := by
  have ⟨s1, s2⟩ := rt_sec hr
  have hn := nc_le s1 s2
  have HS : Hid (32 ≤ S ∧ S ≤ 4096 ∧ xs.length = 624 ∧ AllB xs) := ⟨s1, s2, hl, ha⟩
  have SK : Hid (∀ w0, Below w.heap.size w w0 → Calls Tryz.prog 67 #[.agg (ints .i64 [g0, g1, (S : Int), g3, g4, g5]), v, .int .u64 gen] w0 fun x w' => ∃ r, x = .returned (.tuple #[r, .int .i64 0]) ∧ Pgk w0.heap.size w' r (P255 S xs gen) (nc S) ∧ Below w0.heap.size w0 w') := fun w0 b0 => pages_yes g0 g1 g3 g4 g5 S v xs gen w0 hr (hb.below b0) hl hg (hT.below b0)
  have SM : Hid (∀ w0, Calls Tryz.prog 68 #[.agg (ints .i64 [g0, g1, (S : Int), g3, g4, g5])] w0 fun x w' => ∃ v, x = .returned (.tuple #[v, .int .i64 0]) ∧ Own w0.heap.size w' v (he.mark (S + 88)) ∧ Below w0.heap.size w0 w') := fun w0 => commit_yes g0 g1 g3 g4 g5 S w0 hr
  obtain ⟨n, en⟩ : ∃ n, nc S = n := ⟨_, rfl⟩
  have EN : Hid (nc S = n) := en
  have h20 : 1 ≤ n ∧ n ≤ 20 := by omega
  rw [en] at SK
  clear hr hb hl ha hg hT s1 s2 hn en
  have t0 := tR
  go_enter Tryz.func45, Tryz.ntmps45
  go_wp2_with (first
    | (have q2 := t2; go_at_call 68; refine (SM.out _).mono ?_; rintro e9 w3 ⟨mv, rfl, m9, B9⟩; obtain ⟨mo, mc, rfl⟩ := own_sl m9 (mark_all _); rw [mark_len _ (by omega)] at m9 ⊢; have HM : Hid (Own w2.heap.size w3 (.slice mo (S + 88) mc) (he.mark (S + 88))) := m9; have HP : Hid (Pgk w1.heap.size w3 (.slice ro n rc) (P255 S xs gen) n) := HP.out.below B9; have BB : Hid (Below w.heap.size w w3) := BB.out.trans (B9.mono BB.out.size); have L2 : Hid (w1.heap.size ≤ w2.heap.size ∧ w.heap.size ≤ w1.heap.size) := L2.out; clear m9 B9 t2 hb0_0 hb0_1 hb0_2 hb0_3 hb0_4 hb0_5; have t3 := tR)
    | (have q1 := t1; go_at_call 67; refine (SK.out w1 BB.out).mono ?_; rintro e9 w2 ⟨r, rfl, p9, B9⟩; obtain ⟨ro, rc, rfl⟩ := p9.form; have HP : Hid (Pgk w1.heap.size w2 (.slice ro n rc) (P255 S xs gen) n) := p9; have L2 : Hid (w1.heap.size ≤ w2.heap.size ∧ w.heap.size ≤ w1.heap.size) := ⟨B9.size, BB.out.size⟩; have HB0 : Hid (Vr w2 w.heap.size [.int .i64 g0, .int .i64 g1, .int .i64 (S : Int), .int .i64 g3, .int .i64 g4, .int .i64 g5]) := HB0.out.below B9 (range_lt HB0.out.1 (Nat.succ_pos _)); have BB : Hid (Below w.heap.size w w2) := BB.out.trans (B9.mono BB.out.size); clear p9 B9 t1 hb0_0 hb0_1 hb0_2 hb0_3 hb0_4 hb0_5; have hb0_0 := HB0.out.cell 0 _ rfl; have hb0_1 := HB0.out.cell 1 _ rfl; have hb0_2 := HB0.out.cell 2 _ rfl; have hb0_3 := HB0.out.cell 3 _ rfl; have hb0_4 := HB0.out.cell 4 _ rfl; have hb0_5 := HB0.out.cell 5 _ rfl; have t2 := tR)
    | (have q0 := t0; refine box_lawC _ [.int .i64 g0, .int .i64 g1, .int .i64 (S : Int), .int .i64 g3, .int .i64 g4, .int .i64 g5] rfl ?_; intro w1 X9 B9 l9; have HB0 : Hid (Vr w1 w.heap.size [.int .i64 g0, .int .i64 g1, .int .i64 (S : Int), .int .i64 g3, .int .i64 g4, .int .i64 g5]) := X9; have BB : Hid (Below w.heap.size w w1) := B9; have hb0_0 := HB0.out.cell 0 _ rfl; have hb0_1 := HB0.out.cell 1 _ rfl; have hb0_2 := HB0.out.cell 2 _ rfl; have hb0_3 := HB0.out.cell 3 _ rfl; have hb0_4 := HB0.out.cell 4 _ rfl; have hb0_5 := HB0.out.cell 5 _ rfl; clear X9 B9 l9; clear t0; have t1 := tR))
  obtain ⟨vs, o1, o2, o3⟩ := HP.out
  obtain ⟨ao, cap, e1, -, -, -, hv⟩ := o1.vals
  obtain ⟨rb, rf, e2, hc⟩ := hv (by rw [o2]; omega)
  rw [o2] at e1 hc
  injection e1 with e1 e3 e4
  clear e3 e4
  rw [e2] at e1
  subst e1
  obtain ⟨V, eV⟩ : ∃ V : Nat → Value, V = fun i => vs.getD i undef := ⟨_, rfl⟩
  have HV : Hid (∀ i, i < n → ∃ po pc, V i = .slice po (S + 88) pc ∧ w3.cell? ⟨rb, rf + i, none⟩ = some (V i) ∧ Own w1.heap.size w3 (V i) (P255 S xs gen i)) := fun i hi => by
    have z := o3 i hi
    obtain ⟨po, pc, e⟩ := own_sl z (p255_all HS.out.1 HS.out.2.1 (by rw [EN.out]; exact hi) HS.out.2.2.2)
    rw [show (P255 S xs gen i).length = S + 88 from pgk_len HS.out.1 HS.out.2.1 HS.out.2.2.1 (by rw [EN.out]; exact hi) (by simp)] at e
    subst eV
    exact ⟨po, pc, e, hc i hi, z⟩
  clear o1 o2 o3 hv hc e2 eV vs HP HB0 SK SM cap ao
  have hn1 : IntKind.i64.wrap ((n : Int) - 1) = (n : Int) - 1 := by rw [IntKind.wrap_i64]; omega
  go_loopw [12, 32] (fun d i wr => ∃ (k : Nat) (dv : Value), k ≤ n ∧ i = .int .i64 (k : Int) ∧ d = dv ∧ na.OwR w3.heap.size wr dv 137 2 (dcs (fun i => (i : Int)) V k) ∧ Below w3.heap.size w3 wr) (fun _ i _ => n - (intOf i).toNat)
  case atStart => exact ⟨0, _, by omega, rfl, rfl, na.OwR.nil _ _ _ _, Below.refl _ _⟩
  case round =>
    obtain ⟨k, _, hk, rfl, rfl, hO, hB⟩ := hrel
    have HO : Hid (na.OwR w3.heap.size wr u12 137 2 (dcs (fun i => (i : Int)) V k)) := hO
    have HB : Hid (Below w3.heap.size w3 wr) := hB
    have HK : Hid (k ≤ n ∧ n ≤ 20) := ⟨hk, h20.2⟩
    clear hO hB
    by_cases hlt : k < n
    · have lk1 : (k : Int) < (n : Int) := by omega
      have lk2 : IntKind.i64.wrap ((k : Int) + 1) = (k : Int) + 1 := by rw [IntKind.wrap_i64]; omega
      obtain ⟨po, pc, ev, cv, -⟩ := HV.out k hlt
      have cv : wr.cell? ⟨rb, rf + k, none⟩ = some (.slice po (S + 88) pc) := by rw [HB.out.cell (World.block_lt_of_cell? _ _ cv), cv, ev]
      have EV : Hid (V k = .slice po (S + 88) pc) := ev
      clear ev
      have t0 := tR
      go_wp2_with (first
        | (have q0 := t0; at_builtin; refine pushD_law _ rfl (.tmp 37) (.tmp 41) rfl w3.heap.size (by have := HB.out.size; simp; omega) u12 (dcs (fun i => (i : Int)) V k) [.int .i64 (k : Int), .slice po (S + 88) pc] ⟨wr.heap.size, 0, none⟩ 1 rfl rfl ⟨World.ownsRow.alloc HO.out.1 _, HO.out.2⟩ rfl (fun j u hj => one_new wr 137 [.int .i64 (k : Int), .slice po (S + 88) pc] j u hj) (by intro u hu; simp at hu; rcases hu with h | h <;> (subst h; rfl)) (by rw [dcs_len]; have := HK.out; omega) ?_; intro v1 w4 o9 b9; have HO1 : Hid (na.OwR w3.heap.size w4 v1 137 2 (dcs (fun i => (i : Int)) V (k + 1))) := (by show na.OwR _ _ _ _ _ _; rw [dcs_succ, EV.out]; exact o9); have HB1 : Hid (Below w3.heap.size w3 w4) := (HB.out.trans (((Below.refl _ _).alloc (Nat.le_refl _) _).mono HB.out.size)).trans b9; clear o9 b9 t0 cv; have t1 := tR))
      go_roundw
      case rel => exact ⟨k + 1, v1, by omega, by go_num, rfl, HO1.out, HB1.out⟩
      case measure => simp [intOf]; omega
    · have ek : k = n := by omega
      subst ek
      have t0 := tR
      go_wp2_with (first
        | (have q0 := t0; at_builtin; refine pushD_law _ rfl (.tmp 44) (.tmp 50) rfl w3.heap.size (by have := HB.out.size; simp; omega) u12 (dcs (fun i => (i : Int)) V k) [.int .i64 ((k : Int) - 1), .slice mo (S + 88) mc] ⟨wr.heap.size, 0, none⟩ 1 rfl rfl ⟨World.ownsRow.alloc HO.out.1 _, HO.out.2⟩ rfl (fun j u hj => one_new wr 137 [.int .i64 ((k : Int) - 1), .slice mo (S + 88) mc] j u hj) (by intro u hu; simp at hu; rcases hu with h | h <;> (subst h; rfl)) (by rw [dcs_len]; have := HK.out; omega) ?_; intro v1 w4 o9 b9; have HO1 : Hid (na.OwR w3.heap.size w4 v1 137 2 (dcs (fun i => (i : Int)) V k ++ [[.int .i64 ((k : Int) - 1), .slice mo (S + 88) mc]])) := o9; have HB1 : Hid (Below w3.heap.size w3 w4) := (HB.out.trans (((Below.refl _ _).alloc (Nat.le_refl _) _).mono HB.out.size)).trans b9; clear o9 b9 t0; have t1 := tR))
      go_ret2
      have l1 := L2.out
      have l3 := BB.out.size
      have hb4 := HB1.out
      refine ⟨_, rfl, ⟨fun i => if i < k then V i else .slice mo (S + 88) mc, ?_, fun i hi => ?_⟩, BB.out.trans (HB1.out.mono BB.out.size)⟩
      · have z := HO1.out
        have e : dcs (fun i => (wpl (lps S xs gen) i : Int)) (fun i => if i < k then V i else .slice mo (S + 88) mc) ((lps S xs gen).length + 1) = dcs (fun i => (i : Int)) V k ++ [[.int .i64 ((k : Int) - 1), .slice mo (S + 88) mc]] := by
          rw [lps_len, EN.out, dcs_succ]
          congr 1
          · refine dcs_congr fun i hi => ⟨?_, if_pos hi⟩
            rw [wpl_page (by rw [EN.out]; exact hi)]
          · have : wpl (lps S xs gen) k = k - 1 := by have := wpl_mark (S := S) (xs := xs) (gen := gen); rw [EN.out] at this; exact this
            rw [this, if_neg (Nat.lt_irrefl _)]
            rw [show ((k - 1 : Nat) : Int) = (k : Int) - 1 by omega]
        rw [e]
        exact ⟨ownr_less z.1 l3, z.2⟩
      · rw [lps_len, EN.out] at hi
        by_cases q : i < k
        · rw [wth_page (by rw [EN.out]; exact q)]
          show Own _ _ (if i < k then V i else _) _
          rw [if_pos q]
          obtain ⟨_, _, -, -, z⟩ := HV.out i q
          exact own_less (own_low z hb4) l1.2
        · have : wth (S + 88) (lps S xs gen) i = he.mark (S + 88) := by
            have := wth_mark (T := S + 88) (S := S) (xs := xs) (gen := gen)
            rw [EN.out] at this
            rw [show i = k by omega]; exact this
          rw [this]
          show Own _ _ (if i < k then V i else _) _
          rw [if_neg q]
          exact own_less (own_low HM.out hb4) (Nat.le_trans l1.2 l1.1)
end Go.Proofs.YtakibiigcdgohaaGreatDoor.vb
namespace Go.Proofs.YtakibiigcdgohaaGreatDoor.vb
open Go.RowKit Go.Proofs.YtakibiigcdgohaaGreatDoor.fa Go.Proofs.YtakibiigcdgohaaGreatDoor.he Go.Proofs.YtakibiigcdgohaaGreatDoor.pa Go.Proofs.YtakibiigcdgohaaGreatDoor.ck
set_option maxRecDepth 20000
theorem one_pchip : One 30 := ⟨⟨_, Tryz.underlying30, rfl⟩, by kernel_rfl⟩
theorem one_intv : One 3 := ⟨⟨_, Tryz.underlying3, rfl⟩, by kernel_rfl⟩
theorem one_bytesv : One 35 := ⟨⟨_, Tryz.underlying35, rfl⟩, by kernel_rfl⟩
def wrl (N P T : Nat) (pl : na.Pln) (l : List (List Int)) : List Nat → Bx → Bx × Int × Int
  | [], b => (b, -1, 15)
  | k :: L, b => if b.bad k = true then wrl N P T pl l L b else if (tr1 N P T pl b k l).2 = 4 then ((tr1 N P T pl b k l).1, -1, 4) else if (tr1 N P T pl b k l).2 = 0 then ((tr1 N P T pl b k l).1, (k : Int), 0) else wrl N P T pl l L (tr1 N P T pl b k l).1
def Ddh (w : World) (v : Value) (T : Nat) (l : List (List Int)) : Prop := ∃ vs : Nat → Value, na.Rws w v 2 (dcs (fun i => (wpl l i : Int)) vs (l.length + 1)) ∧ ∀ i, i < l.length + 1 → Byt w (vs i) (wth T l i)
theorem Ddh.below {w w' : World} {v : Value} {T : Nat} {l : List (List Int)} (h : Ddh w v T l) (hb : Below w.heap.size w w') : Ddh w' v T l := by
  obtain ⟨vs, h1, h2⟩ := h
  exact ⟨vs, h1.below (by decide) hb, fun i hi => (h2 i hi).below hb⟩
theorem Ddh.form {w : World} {v : Value} {T : Nat} {l : List (List Int)} (h : Ddh w v T l) : ∃ b off cap, v = .slice (some ⟨b, off, none⟩) (l.length + 1) cap := by
  obtain ⟨vs, ⟨ao, cap, rfl, h1, h2, h3, h4, h5⟩, -⟩ := h
  rw [dcs_len] at h5
  obtain ⟨b, off, rfl, -⟩ := h5 (Nat.succ_pos _)
  exact ⟨b, off, cap, by rw [dcs_len]⟩
theorem Ddh.at {M : Nat → Bool} {w : World} {b off n cap : Nat} {T : Nat} {l : List (List Int)} (h : Ddh (na.hid M w) (.slice (some ⟨b, off, none⟩) n cap) T l) (hT : ∀ i, i < l.length + 1 → (wth T l i).length = T) (i : Nat) (hi : i < l.length + 1) :
    ∃ po pc, w.cell? ⟨b, off + i * 2, none⟩ = some (.int .i64 (wpl l i : Int)) ∧ w.cell? ⟨b, off + i * 2 + 1, none⟩ = some (.slice po T pc) ∧ Byt (na.hid M w) (.slice po T pc) (wth T l i) := by
  obtain ⟨vs, ⟨ao, cap', e1, h1, h2, h3, h4, h5⟩, h6⟩ := h
  rw [dcs_len] at h5
  obtain ⟨b', off', rfl, hc⟩ := h5 (Nat.succ_pos _)
  injection e1 with e1 _ _
  injection e1 with e1
  injection e1 with e1 e2 _
  subst e1 e2
  have z := na.hid_range (hc i hi)
  have e : na.el (dcs (fun i => (wpl l i : Int)) vs (l.length + 1)) i = [.int .i64 (wpl l i : Int), vs i] := by simp [na.el, dcs, List.getD, hi]
  rw [e] at z
  obtain ⟨po, pc, ev⟩ := byt_form (h6 i hi) (hT i hi)
  refine ⟨po, pc, z 0 _ rfl, ?_, by rw [← ev]; exact h6 i hi⟩
  rw [← ev]
  exact z 1 _ rfl
theorem wri_step {N P T : Nat} {pl : na.Pln} {l : List (List Int)} {k m : Nat} {s : na.St} {i : Nat} : wri N P T pl l k (m + 1) s i = if (prg N P T pl s k (wpl l i) (wth T l i)).2 = 0 then wri N P T pl l k m (prg N P T pl s k (wpl l i) (wth T l i)).1 (i + 1) else prg N P T pl s k (wpl l i) (wth T l i) := rfl
theorem dst_cln5 {P T : Nat} {pl : na.Pln} {b : Bx} {k : Nat} (h0 : (dst P T pl b k).2 ≠ 0) (h4 : (dst P T pl b k).2 ≠ 4) : (dst P T pl b k).1.cln k = false ∧ (dst P T pl b k).1.bad k = true := by
  unfold dst at h0 h4 ⊢
  split at h0
  · rename_i q; rw [if_pos q] at h4; exact absurd rfl h4
  · rename_i q
    rw [if_neg q] at h4 ⊢
    split at h0
    · exact absurd rfl h0
    · rename_i hp; simp only [hp] at h4; exact absurd rfl h4
    · rename_i hp
      simp only [hp] at h4
      split at h0
      · exact ⟨na.at1_same _ _ _, na.at1_same _ _ _⟩
      · rename_i hq; simp only [hq] at h4; exact absurd rfl h4
      · exact ⟨na.at1_same _ _ _, na.at1_same _ _ _⟩
section
variable {H : Ch} {M : Nat → Bool} {w : World} {B : Nat} {b : Bx} {l : List na.Opn}
def Wrd (H : Ch) (M : Nat → Bool) (w : World) (B : Nat) (R : Bx × Int × Int) (e : Ending) (w' : World) : Prop := ∃ M' l', e = .returned (.tuple #[.int .i64 R.2.1, .int .i64 R.2.2]) ∧ Bs H M' w' B R.1 l' ∧ Fr M w B M' w'
theorem ready (L : List (List Int)) {M' : Nat → Bool} {wr : World} {b' : Bx} {l' : List na.Opn} (hB : Bs H M' wr B b' l') (k : Nat) (hk : k < 4) (hn : na.ops b'.s ≤ 999000) :
    (∃ x, Calls Tryz.prog 70 #[.pointer (some ⟨B, 0, none⟩), .int .i64 (k : Int)] wr (Opd H M' wr B 4 x) ∧ (tr1 H.N H.P H.T H.pl b' k L) = (x, 4)) ∨
    (∃ x, Calls Tryz.prog 70 #[.pointer (some ⟨B, 0, none⟩), .int .i64 (k : Int)] wr (Opd H M' wr B 0 x) ∧ x.cln k = false ∧ (tr1 H.N H.P H.T H.pl b' k L).1 = x ∧ (tr1 H.N H.P H.T H.pl b' k L).2 ≠ 0 ∧ (tr1 H.N H.P H.T H.pl b' k L).2 ≠ 4) ∨
    (∃ x, Calls Tryz.prog 70 #[.pointer (some ⟨B, 0, none⟩), .int .i64 (k : Int)] wr (Opd H M' wr B 0 x) ∧ x.cln k = true ∧ tr1 H.N H.P H.T H.pl b' k L = tr2 H.N H.P H.T H.pl x k L ∧ na.ops x.s ≤ na.ops b'.s + 2) := by
  cases hc : b'.cln k with
  | true =>
    refine .inr (.inr ⟨b', cleanse_t hB k hk hc, hc, ?_, Nat.le_add_right _ _⟩)
    unfold tr1
    rw [if_pos hc]
  | false =>
    have z := cleanse_f hB k hk hc (by omega)
    have hop := dst_ops (P := H.P) (T := H.T) (pl := H.pl) (b := b') (k := k)
    have e1 : tr1 H.N H.P H.T H.pl b' k L = if (dst H.P H.T H.pl b' k).2 = 0 then tr2 H.N H.P H.T H.pl (dst H.P H.T H.pl b' k).1 k L else dst H.P H.T H.pl b' k := by
      unfold tr1
      rw [if_neg (by rw [hc]; exact Bool.false_ne_true)]
    by_cases h4 : (dst H.P H.T H.pl b' k).2 = 4
    · rw [if_pos h4] at z
      refine .inl ⟨_, z, ?_⟩
      rw [e1, if_neg (by rw [h4]; decide), ← h4]
    · rw [if_neg h4] at z
      by_cases h0 : (dst H.P H.T H.pl b' k).2 = 0
      · refine .inr (.inr ⟨_, z, ?_, by rw [e1, if_pos h0], hop⟩)
        exact dst_cln0 h0
      · refine .inr (.inl ⟨_, z, (dst_cln5 h0 h4).1, by rw [e1, if_neg h0], by rw [e1, if_neg h0]; exact h0, by rw [e1, if_neg h0]; exact h4⟩)
theorem tr2_out {H : Ch} {x x1 b' : Bx} {k : Nat} {L : List (List Int)} {R : Bx × Int × Int} {W : Bx → Bx × Int × Int} {RW : na.St × Int} (hw : R = if (tr2 H.N H.P H.T H.pl x k L).2 = 4 then ((tr2 H.N H.P H.T H.pl x k L).1, -1, 4) else if (tr2 H.N H.P H.T H.pl x k L).2 = 0 then ((tr2 H.N H.P H.T H.pl x k L).1, (k : Int), 0) else W (tr2 H.N H.P H.T H.pl x k L).1)
    (ht : na.ops (tr2 H.N H.P H.T H.pl x k L).1.s ≤ na.ops b'.s + L.length + 5) (hx : x1 = { x with cln := na.at1 x.cln k false }) (hr : wri H.N H.P H.T H.pl L k (L.length + 1) x.s 0 = RW) :
    R = (if RW.2 = 0 ∨ RW.2 = 4 then (if RW.2 = 4 then ({ x1 with s := RW.1 }, -1, 4) else ({ x1 with s := RW.1 }, (k : Int), 0)) else if (dst H.P H.T H.pl { x1 with s := RW.1, bad := na.at1 x1.bad k true } k).2 = 4 then ((dst H.P H.T H.pl { x1 with s := RW.1, bad := na.at1 x1.bad k true } k).1, -1, 4) else W (dst H.P H.T H.pl { x1 with s := RW.1, bad := na.at1 x1.bad k true } k).1) ∧ (¬ (RW.2 = 0 ∨ RW.2 = 4) → na.ops (dst H.P H.T H.pl { x1 with s := RW.1, bad := na.at1 x1.bad k true } k).1.s ≤ na.ops b'.s + L.length + 5) := by
  have e : tr2 H.N H.P H.T H.pl x k L = if RW.2 = 0 ∨ RW.2 = 4 then ({ x1 with s := RW.1 }, RW.2) else if (dst H.P H.T H.pl { x1 with s := RW.1, bad := na.at1 x1.bad k true } k).2 = 4 then dst H.P H.T H.pl { x1 with s := RW.1, bad := na.at1 x1.bad k true } k else ((dst H.P H.T H.pl { x1 with s := RW.1, bad := na.at1 x1.bad k true } k).1, 5) := by
    unfold tr2
    simp only [hr]
    subst hx
    rfl
  rw [e] at hw ht
  by_cases h1 : RW.2 = 0 ∨ RW.2 = 4
  · rw [if_pos h1] at hw ⊢
    refine ⟨?_, fun z => absurd h1 z⟩
    rw [hw]
    by_cases h4 : RW.2 = 4
    · rw [if_pos h4, if_pos h4]
    · rw [if_neg h4, if_neg h4, if_pos (h1.resolve_right h4)]
  · rw [if_neg h1] at hw ht ⊢
    by_cases h4 : (dst H.P H.T H.pl { x1 with s := RW.1, bad := na.at1 x1.bad k true } k).2 = 4
    · rw [if_pos h4] at hw ht ⊢
      refine ⟨?_, fun _ => ht⟩
      rw [hw, if_pos h4]
    · rw [if_neg h4] at hw ht ⊢
      refine ⟨?_, fun _ => ht⟩
      rw [hw, if_neg (show ¬ (5 : Int) = 4 by decide), if_neg (show ¬ (5 : Int) = 0 by decide)]
theorem write_any (h : Bs H M w B b l) (m : Nat) (hm : m ≤ 4) (hc : b.cur = (m : Int) - 1) (dv : Value) (L : List (List Int)) (hL : L.length ≤ 20) (hD : Ddh (na.hid (mb M B) w) dv H.T L) (hT : ∀ i, i < L.length + 1 → (wth H.T L i).length = H.T) (hn : na.ops b.s ≤ 900000) :
    Calls Tryz.prog 46 #[.pointer (some ⟨B, 0, none⟩), dv] w (Wrd H M w B (wrl H.N H.P H.T H.pl L (bhl m 4) b)) := by
  have HB : Hid (Bs H M w B b l) := h
  have HN : Hid (na.ops b.s ≤ 900000) := hn
  have HD : Hid (Ddh (na.hid (mb M B) w) dv H.T L) := hD
  have HT : Hid (∀ i, i < L.length + 1 → (wth H.T L i).length = H.T) := hT
  obtain ⟨db, doff, dc, rfl⟩ := hD.form
  have SBH : Hid (∀ w0, w0 = w → Calls Tryz.prog 69 #[.pointer (some ⟨B, 0, none⟩)] w0 fun e w' => ∃ v, e = .returned v ∧ ge.OwnI w.heap.size w' v (nums (bhl m 4)) ∧ Below w.heap.size w w') := fun w0 e => by subst e; exact behind_any m hm w0 (by rw [← hc]; exact (HB.out.hlt 0 (by decide)).1)
  obtain ⟨LB, eb⟩ : ∃ LB, bhl m 4 = LB := ⟨_, rfl⟩
  have EB : Hid (∀ i, i < LB.length → LB.getD i 0 < 4) := fun i hi => by subst eb; exact bhl_lt m i hi
  have hLB : LB.length ≤ 4 := by rw [← eb]; exact bhl_len m 4
  have hp : 0 < LB.length := by rw [← eb]; exact bhl_pos m hm
  rw [eb] at SBH ⊢
  obtain ⟨R, eR⟩ : ∃ R, wrl H.N H.P H.T H.pl L LB b = R := ⟨_, rfl⟩
  have ER : Hid (wrl H.N H.P H.T H.pl L LB b = R) := eR
  rw [eR]
  obtain ⟨n1, en⟩ : ∃ n1, L.length + 1 = n1 := ⟨_, rfl⟩
  have EN : Hid (L.length + 1 = n1) := en
  have hn1 : n1 ≤ 21 := by omega
  rw [en]
  obtain ⟨nb, enb⟩ : ∃ nb, LB.length = nb := ⟨_, rfl⟩
  have ENB : Hid (LB.length = nb) := enb
  have hnb : 0 < nb ∧ nb ≤ 4 := by omega
  have SBH : Hid (∀ w0, w0 = w → Calls Tryz.prog 69 #[.pointer (some ⟨B, 0, none⟩)] w0 fun e w' => ∃ g cap, e = .returned (.slice (some ⟨g, 0, none⟩) nb cap) ∧ w.heap.size ≤ g ∧ g < w'.heap.size ∧ Ar w' g 0 .i64 (nums LB) ∧ Below w.heap.size w w') := fun w0 e => (SBH.out w0 e).mono (by
    rintro e w' ⟨v, h1, h2, h3⟩
    have hl : (nums LB).length = nb := by unfold nums; rw [List.length_map, enb]
    obtain ⟨g, cap, q1, -, -, q4, q5, q6⟩ := h2.ar (by rw [hl]; omega)
    rw [hl] at q1
    exact ⟨g, cap, by rw [h1, q1], q4, q5, q6, h3⟩)
  clear h hn hD hT hm hc hL eR en eb enb hp hLB
  have t0 := tR
  go_enter Tryz.func46, Tryz.ntmps46
  go_wp2
  go_step3
  go_wp2
  go_step3
  go_wp2_with (first
    | (have q0 := t0; go_at_call 69; refine (SBH.out w rfl).mono ?_; rintro e9 w1 ⟨rg, rc, rfl, r9, rl9, ra9, b9⟩; have HA : Hid (Ar w1 rg 0 .i64 (nums LB)) := ra9; have RG : Hid (w.heap.size ≤ rg ∧ rg < w1.heap.size) := ⟨r9, rl9⟩; have B1 : Hid (Below w.heap.size w w1) := b9; clear b9 t0 ra9 r9 rl9; have t1 := tR))
  have HD1 : Hid (Ddh (na.hid (mb M B) w1) (.slice (some ⟨db, doff, none⟩) (L.length + 1) dc) H.T L) := HD.out.below (Fr.of_below (M := M) (B := B) B1.out).hid
  have HLT : Hid (B < w.heap.size ∧ na.Mlt M w) := ⟨HB.out.lt, HB.out.1.2.1⟩
  have HR1 : Hid (M rg = false ∧ rg ≠ B) := ⟨by
    cases q : M rg with
    | false => rfl
    | true => have := HLT.out.2 rg q; have := RG.out.1; omega, by have := HLT.out.1; have := RG.out.1; omega⟩
  clear HD SBH
  go_loopg [16] nb (fun g s16 wx => ∃ (i : Nat) (b' : Bx) (M' : Nat → Bool) (l' : List na.Opn), i + g = nb ∧ s16 = .int .i64 (i : Int) ∧ Hid (wrl H.N H.P H.T H.pl L (LB.drop i) b' = R) ∧ Hid (Bs H M' wx B b' l') ∧ Hid (Fr M w1 B M' wx) ∧ Hid (na.ops b'.s ≤ 900000 + 30 * i))
  case atStart => exact ⟨0, b, M, l, by omega, rfl, ER.out, HB.out.below B1.out, Fr.refl _ _ _, HN.out⟩
  case round =>
    obtain ⟨i, b', M', l', hig, rfl, HR, HB, HF, HO⟩ := hrel
    obtain ⟨wo, ewo⟩ : ∃ wo : World, wo = wr := ⟨_, rfl⟩
    subst ewo
    clear ER HN
    cases gk with
    | zero =>
      have nlt : ¬ ((i : Int) < (nb : Int)) := by omega
      have EE : Hid ((b', (-1 : Int), (15 : Int)) = R) := by
        have := HR.out
        rw [List.drop_eq_nil_of_le (by rw [ENB.out]; omega)] at this
        exact this
      clear HR
      go_wp2
      (try rw [Exit.noGoto_ret])
      go_ret2
      have e := EE.out
      subst e
      exact ⟨M', l', rfl, HB.out, (Fr.of_below B1.out).trans HF.out⟩
    | succ g =>
      have hlt : (i : Int) < (nb : Int) := by omega
      have lk2 : IntKind.i64.wrap ((i : Int) + 1) = (i : Int) + 1 := by rw [IntKind.wrap_i64]; omega
      have hil : i < LB.length := by rw [ENB.out]; omega
      obtain ⟨k, ek⟩ : ∃ k, LB.getD i 0 = k := ⟨_, rfl⟩
      have hk4 : k < 4 := by rw [← ek]; exact EB.out i hil
      have HK : Hid (k < 4 ∧ i < nb ∧ nb ≤ 4) := ⟨hk4, by omega, hnb.2⟩
      have hdrop : LB.drop i = k :: LB.drop (i + 1) := by rw [List.drop_eq_getElem_cons hil, ← ek, List.getD_eq_getElem?_getD, List.getElem?_eq_getElem hil]; rfl
      have cr : wo.cell? ⟨rg, i, none⟩ = some (.int .i64 (k : Int)) := by
        have hl : i < (nums LB).length := by unfold nums; rw [List.length_map]; exact hil
        have z := HA.out.cell0 i hl
        rw [World.cell?_of_block (w := w1) (w' := wo) (a := ⟨rg, i, none⟩) (HF.out.block RG.out.2 HR1.out.1 HR1.out.2), z]
        congr 2
        unfold gb nums
        rw [List.getD_eq_getElem?_getD, List.getElem?_map, List.getElem?_eq_getElem hil, ← ek, List.getD_eq_getElem?_getD, List.getElem?_eq_getElem hil]
        rfl
      have lk0 : (0 : Int) ≤ (k : Int) := by omega
      have lk1 : (k : Int) < 4 := by omega
      obtain ⟨c1, c2, c3, c4⟩ := HB.out.hlt k hk4
      have HW : Hid (R = if b'.bad k = true then wrl H.N H.P H.T H.pl L (LB.drop (i + 1)) b' else if (tr1 H.N H.P H.T H.pl b' k L).2 = 4 then ((tr1 H.N H.P H.T H.pl b' k L).1, -1, 4) else if (tr1 H.N H.P H.T H.pl b' k L).2 = 0 then ((tr1 H.N H.P H.T H.pl b' k L).1, (k : Int), 0) else wrl H.N H.P H.T H.pl L (LB.drop (i + 1)) (tr1 H.N H.P H.T H.pl b' k L).1) := by
        have := HR.out
        rw [hdrop] at this
        exact this.symm
      have htop := tr1_ops (N := H.N) (P := H.P) (T := H.T) (pl := H.pl) (b := b') (k := k) (l := L)
      have HTO : Hid (na.ops (tr1 H.N H.P H.T H.pl b' k L).1.s ≤ na.ops b'.s + L.length + 5) := htop
      clear HR hil ek hk4 hdrop c1 c2 c4 htop
      cases hbad : b'.bad k with
      | true =>
        have HW : Hid (wrl H.N H.P H.T H.pl L (LB.drop (i + 1)) b' = R) := by show _ = _; rw [HW.out, if_pos hbad]
        rw [hbad] at c3
        clear hbad HTO
        go_wp2
        go_roundg g
        case measure => omega
        case rel => exact ⟨i + 1, b', M', l', by omega, by first | rfl | go_num, HW, HB, HF, by have := HO.out; show _ ≤ _; omega⟩
      | false =>
        have HW : Hid (R = if (tr1 H.N H.P H.T H.pl b' k L).2 = 4 then ((tr1 H.N H.P H.T H.pl b' k L).1, -1, 4) else if (tr1 H.N H.P H.T H.pl b' k L).2 = 0 then ((tr1 H.N H.P H.T H.pl b' k L).1, (k : Int), 0) else wrl H.N H.P H.T H.pl L (LB.drop (i + 1)) (tr1 H.N H.P H.T H.pl b' k L).1) := by show _ = _; rw [HW.out, if_neg (by rw [hbad]; exact Bool.false_ne_true)]
        rw [hbad] at c3
        have rdy := ready L HB.out k HK.out.1 (by have := HO.out; have := HK.out; omega)
        have HBD : Hid (b'.bad k = false) := hbad
        clear hbad
        rcases rdy with ⟨x, sc, e1⟩ | ⟨x, sc, e1, e2, e3, e4⟩ | ⟨x, sc, e1, e2, e3⟩
        · have HW : Hid (R = (x, -1, 4)) := by show _ = _; rw [HW.out, e1, if_pos rfl]
          have SC : Hid (∀ w0, w0 = wo → Calls Tryz.prog 70 #[.pointer (some ⟨B, 0, none⟩), .int .i64 (k : Int)] w0 (Opd H M' wo B 4 x)) := fun w0 e => by subst e; exact sc
          clear sc e1 HTO
          have t0 := tR
          go_wp2_with (first
            | (have q0 := t0; go_at_call 70; refine (SC.out wo rfl).mono ?_; rintro e9 w2 ⟨M1, l1, rfl, b9, f9⟩; have HX : Hid (Bs H M1 w2 B x l1) := b9; have HF : Hid (Fr M w1 B M1 w2) := HF.out.trans f9; clear b9 f9 cr c3 t0; have t1 := tR))
          (try rw [Exit.noGoto_ret])
          go_ret2
          have e := HW.out
          subst e
          exact ⟨M1, l1, rfl, HX.out, (Fr.of_below B1.out).trans HF.out⟩
        · have HW : Hid (wrl H.N H.P H.T H.pl L (LB.drop (i + 1)) x = R) := by show _ = _; rw [HW.out, if_neg e4, if_neg e3, e2]
          rw [e2] at HTO
          have SC : Hid (∀ w0, w0 = wo → Calls Tryz.prog 70 #[.pointer (some ⟨B, 0, none⟩), .int .i64 (k : Int)] w0 (Opd H M' wo B 0 x)) := fun w0 e => by subst e; exact sc
          have HE : Hid (x.cln k = false) := e1
          clear sc e1 e2 e3 e4
          have t0 := tR
          go_wp2_with (first
            | (have q0 := t0; go_at_call 70; refine (SC.out wo rfl).mono ?_; rintro e9 w2 ⟨M1, l1, rfl, b9, f9⟩; have HX : Hid (Bs H M1 w2 B x l1) := b9; have HF : Hid (Fr M w1 B M1 w2) := HF.out.trans f9; have c5 := (HX.out.hlt k HK.out.1).2.1; rw [HE.out] at c5; clear b9 f9 cr c3 t0; have t1 := tR))
          go_roundg g
          case measure => omega
          case rel => exact ⟨i + 1, x, M1, l1, by omega, by first | rfl | go_num, HW, HX, HF, by have := HO.out; have := HTO.out; have := EN.out; show _ ≤ _; omega⟩
        · rw [e2] at HW HTO
          have SC : Hid (∀ w0, w0 = wo → Calls Tryz.prog 70 #[.pointer (some ⟨B, 0, none⟩), .int .i64 (k : Int)] w0 (Opd H M' wo B 0 x)) := fun w0 e => by subst e; exact sc
          have HE : Hid (x.cln k = true ∧ na.ops x.s ≤ na.ops b'.s + 2) := ⟨e1, e3⟩
          clear sc e1 e2 e3
          have t0 := tR
          go_wp2_with (first
            | (have q1 := t1; (with_reducible refine at_store ?_); refine flag_law HX.out (3 + k) false { x with cln := na.at1 x.cln k false } rfl rfl (by have := HK.out; omega) (set_cln H.c x false k HK.out.1) rfl rfl ?_; intro w3 b9 f9; have HY : Hid (Bs H M1 w3 B { x with cln := na.at1 x.cln k false } l1) := b9; have HF : Hid (Fr M w1 B M1 w3) := HF.out.trans f9; clear b9 f9 c5 t1; have t2 := tR)
            | (have q0 := t0; go_at_call 70; refine (SC.out wo rfl).mono ?_; rintro e9 w2 ⟨M1, l1, rfl, b9, f9⟩; have HX : Hid (Bs H M1 w2 B x l1) := b9; have HF : Hid (Fr M w1 B M1 w2) := HF.out.trans f9; have c5 := (HX.out.hlt k HK.out.1).2.1; rw [HE.out.1] at c5; clear b9 f9 cr c3 t0; have t1 := tR))
          obtain ⟨x1, ex1⟩ : ∃ x1 : Bx, x1 = { x with cln := na.at1 x.cln k false } := ⟨_, rfl⟩
          have EX : Hid (x1 = { x with cln := na.at1 x.cln k false }) := ex1
          rw [← ex1] at HY
          clear ex1
          obtain ⟨RW, erw⟩ : ∃ RW, wri H.N H.P H.T H.pl L k n1 x.s 0 = RW := ⟨_, rfl⟩
          have ERW : Hid (wri H.N H.P H.T H.pl L k n1 x.s 0 = RW) := erw
          have HQ : Hid (R = (if RW.2 = 0 ∨ RW.2 = 4 then (if RW.2 = 4 then ({ x1 with s := RW.1 }, -1, 4) else ({ x1 with s := RW.1 }, (k : Int), 0)) else if (dst H.P H.T H.pl { x1 with s := RW.1, bad := na.at1 x1.bad k true } k).2 = 4 then ((dst H.P H.T H.pl { x1 with s := RW.1, bad := na.at1 x1.bad k true } k).1, -1, 4) else wrl H.N H.P H.T H.pl L (LB.drop (i + 1)) (dst H.P H.T H.pl { x1 with s := RW.1, bad := na.at1 x1.bad k true } k).1) ∧ (¬ (RW.2 = 0 ∨ RW.2 = 4) → na.ops (dst H.P H.T H.pl { x1 with s := RW.1, bad := na.at1 x1.bad k true } k).1.s ≤ na.ops b'.s + L.length + 5)) := tr2_out HW.out HTO.out EX.out (by rw [EN.out]; exact erw)
          clear HW HTO erw
          go_loopg [46] n1 (fun g2 s46 wy => ∃ (j : Nat) (s2 : na.St) (M2 : Nat → Bool) (l2 : List na.Opn), j + g2 = n1 ∧ s46 = .int .i64 (j : Int) ∧ Hid (wri H.N H.P H.T H.pl L k (n1 - j) s2 j = RW) ∧ Hid (Bs H M2 wy B { x1 with s := s2 } l2) ∧ Hid (Fr M w1 B M2 wy) ∧ Hid (na.ops s2 ≤ na.ops x.s + j))
          case atStart => exact ⟨0, x.s, M1, l1, by omega, rfl, ERW.out, by have := HY.out; have e := EX.out; subst e; exact this, HF.out, Nat.le_refl _⟩
          case round =>
            obtain ⟨j, s2, M2, l2, hjg, rfl, HR2, HB2, HF2, HO2⟩ := hrel
            obtain ⟨wy, ewy⟩ : ∃ wy : World, wy = wr := ⟨_, rfl⟩
            subst ewy
            clear ERW HY HF
            cases gk with
            | zero =>
              have njt : ¬ ((j : Int) < (n1 : Int)) := by omega
              have EE : Hid (R = ({ x1 with s := s2 }, (k : Int), 0)) := by
                have := HR2.out
                rw [show n1 - j = 0 by omega] at this
                have e : RW = (s2, 0) := this.symm
                show R = _
                rw [HQ.out.1, e]
                rfl
              clear HR2 HQ
              go_wp2
              (try rw [Exit.noGoto_ret])
              go_ret2
              have e := EE.out
              subst e
              exact ⟨M2, l2, rfl, HB2.out, (Fr.of_below B1.out).trans HF2.out⟩
            | succ g2 =>
              have hjt : (j : Int) < (n1 : Int) := by omega
              have lj2 : IntKind.i64.wrap ((j : Int) + 1) = (j : Int) + 1 := by rw [IntKind.wrap_i64]; omega
              have hjl : j < L.length + 1 := by rw [EN.out]; omega
              obtain ⟨po, pc, d0, d1, dy⟩ := (HD1.out.below HF2.out.hid).at HT.out j hjl
              have hx2 : na.ops s2 ≤ 999000 := by have := HO2.out; have := HE.out.2; have := HO.out; have := HK.out; omega
              have SP : Hid (∀ w0, Below wy.heap.size wy w0 → Calls Tryz.prog 71 #[.pointer (some ⟨H.c, 0, none⟩), .agg (ints .i64 [(k : Int), (wpl L j : Int)]), .slice po H.T pc] w0 (Opd H M2 w0 B (prg H.N H.P H.T H.pl s2 k (wpl L j) (wth H.T L j)).2 { x1 with s := (prg H.N H.P H.T H.pl s2 k (wpl L j) (wth H.T L j)).1 })) := fun w0 b0 => prg_bs (HB2.out.below b0) k (wpl L j) (show na.ops s2 ≤ 1000000 by omega) (.slice po H.T pc) (wth H.T L j) ((Fr.of_below b0).byt dy)
              have HRX : Hid (RW = if (prg H.N H.P H.T H.pl s2 k (wpl L j) (wth H.T L j)).2 = 0 then wri H.N H.P H.T H.pl L k (n1 - (j + 1)) (prg H.N H.P H.T H.pl s2 k (wpl L j) (wth H.T L j)).1 (j + 1) else prg H.N H.P H.T H.pl s2 k (wpl L j) (wth H.T L j)) := by
                have := HR2.out
                rw [show n1 - j = (n1 - (j + 1)) + 1 by omega, wri_step] at this
                exact this.symm
              have hpo := prg_ops (N := H.N) (P := H.P) (T := H.T) (pl := H.pl) (s := s2) (k := k) (p := wpl L j) (d := wth H.T L j)
              generalize prg H.N H.P H.T H.pl s2 k (wpl L j) (wth H.T L j) = PR at SP HRX hpo
              obtain ⟨s3, p3⟩ := PR
              have HPO : Hid (na.ops s3 ≤ na.ops s2 + 1) := hpo
              have HX2 : Hid (na.ops s2 ≤ 999000) := hx2
              have EPG : Hid (j < L.length + 1) := hjl
              generalize (wpl L j : Int) = pg at d0 SP
              clear hpo hx2 hjl dy HR2
              obtain ⟨T, eT⟩ : ∃ T, H.T = T := ⟨_, rfl⟩
              have ET : Hid (H.T = T) := eT
              rw [eT] at d1
              have SP : Hid (∀ w0, Below wy.heap.size wy w0 → Calls Tryz.prog 71 #[.pointer (some ⟨H.c, 0, none⟩), .agg (ints .i64 [(k : Int), pg]), .slice po T pc] w0 (Opd H M2 w0 B p3 { x1 with s := s3 })) := by rw [← eT]; exact SP
              clear eT
              have t2 := tR
              go_wp2_with (first
                | (have q3 := t3; (with_reducible refine at_store ?_); refine store_lawC _ [.int .i64 pg, .slice po T pc] wy.heap.size 0 rfl rfl HV0.out.2 (by kernel_rfl) (by intro v hv; simp at hv; rcases hv with h | h <;> (subst h; rfl)) ?_; intro w4 E9 R9 T9 B9; have BW : Hid (Below wy.heap.size wy w4) := BA.out.trans B9; have HV1 : Hid (Vr w4 wy.heap.size [.int .i64 pg, .slice po T pc]) := ⟨R9, T9⟩; clear E9 R9 T9 B9 HV0 BA t3; have t4 := tR)
                | (have q2 := t2; (with_reducible refine at_alloc ?_); refine new_lawC _ [.int .i64 0, .slice none 0 0] (by kernel_rfl) ?_; intro w5 X9 B9 l9; have HV0 : Hid (Vr w5 wy.heap.size [.int .i64 0, .slice none 0 0]) := X9; have BA : Hid (Below wy.heap.size wy w5) := B9; clear X9 B9 l9 t2 d0 d1; have t3 := tR))
              have DN : Hid (M2 wy.heap.size = false ∧ wy.heap.size ≠ B) := ⟨(by cases q : M2 wy.heap.size with
                | false => rfl
                | true => exact absurd (HB2.out.1.2.1 _ q) (Nat.lt_irrefl _)), fun e => absurd HB2.out.lt (by rw [← e]; exact Nat.lt_irrefl _)⟩
              have CB : Hid (w4.cell? ⟨B, 0, none⟩ = some (.pointer (some ⟨H.c, 0, none⟩))) := (HB2.out.below BW.out).2.2.1.cell 0 _ rfl
              have BW : Hid (Below wy.heap.size wy w4.drew) := fa.below_drawn BW.out 1
              refine wp_region_held_drew (S := fun w' => w'.cell? ⟨B, 0, none⟩ = some (.pointer (some ⟨H.c, 0, none⟩)) ∧ w'.cell? ⟨wy.heap.size, 0, none⟩ = some (.int .i64 pg) ∧ w'.cell? ⟨wy.heap.size, 1, none⟩ = some (.slice po T pc)) (by kernel_rfl) ⟨CB.out, HV1.out.cell 0 _ rfl, HV1.out.cell 1 _ rfl⟩ (fun hS => ?_)
              obtain ⟨y1, hx0⟩ : ∃ x, x = w4.drew := ⟨_, rfl⟩
              rw [← hx0] at hS BW ⊢
              clear hx0
              refine tkH 0 (some 50) (.pointer (some ⟨B, 0, none⟩)) rfl rfl (Or.inl ⟨by rfl, fun w' hw' => by rfl⟩) hS ?_
              simp only [Act.put, zE1, zE2, zE3]
              refine tkH 1 (some 51) (.pointer (some ⟨B, 0, none⟩)) rfl rfl (Or.inl ⟨by rfl, fun w' hw' => by go_simp⟩) hS ?_
              simp only [Act.put, zE1, zE2, zE3]
              refine tkH 2 (some 52) (.pointer (some ⟨B, 0, none⟩)) rfl rfl (Or.inl ⟨by rfl, fun w' hw' => by go_simp⟩) hS ?_
              simp only [Act.put, zE1, zE2, zE3]
              refine tkH 3 (some 53) (.pointer (some ⟨H.c, 0, none⟩)) rfl rfl (Or.inl ⟨by rfl, fun w' hw' => by exact exec_loadN 30 (.tmp 52) rfl _ rfl _ _ (load_one one_pchip hw'.1)⟩) hS ?_
              simp only [Act.put, zE1, zE2, zE3]
              refine tkH 4 (some 54) (.int .i64 (k : Int)) rfl rfl (Or.inl ⟨by rfl, fun w' hw' => by rfl⟩) hS ?_
              simp only [Act.put, zE1, zE2, zE3]
              refine tkH 5 (some 55) (.pointer (some ⟨wy.heap.size, 0, none⟩)) rfl rfl (Or.inl ⟨by rfl, fun w' hw' => by go_simp⟩) hS ?_
              simp only [Act.put, zE1, zE2, zE3]
              refine tkH 6 (some 56) (.int .i64 pg) rfl rfl (Or.inl ⟨by rfl, fun w' hw' => by exact exec_loadN 3 (.tmp 55) rfl _ rfl _ _ (load_one one_intv (hw'.2.1))⟩) hS ?_
              simp only [Act.put, zE1, zE2, zE3]
              refine tkH 7 (some 57) (.agg (ints .i64 [(k : Int), pg])) rfl rfl (Or.inl ⟨by rfl, fun w' hw' => by kernel_rfl⟩) hS ?_
              simp only [Act.put, zE1, zE2, zE3]
              refine tkH 8 (some 58) (.pointer (some ⟨wy.heap.size, 1, none⟩)) rfl rfl (Or.inl ⟨by rfl, fun w' hw' => by go_simp⟩) hS ?_
              simp only [Act.put, zE1, zE2, zE3]
              refine tkH 9 (some 59) (.slice po T pc) rfl rfl (Or.inl ⟨by rfl, fun w' hw' => by exact exec_loadN 35 (.tmp 58) rfl _ rfl _ _ (load_one one_bytesv (hw'.2.2))⟩) hS ?_
              simp only [Act.put, zE1, zE2, zE3]
              refine wpAnyH_ready (rs := [10]) (by kernel_rfl) (by simp) ?_
              refine AllReadyH.cons rfl (fun K hK => ?_) AllReadyH.nil
              refine step_callW _ (by rfl) (some 60) rfl 71 #[.tmp 53, .tmp 57, .tmp 59] #[30, 112, 35] rfl (fun q w' => by rfl) #[.pointer (some ⟨H.c, 0, none⟩), .agg (ints .i64 [(k : Int), pg]), .slice po T pc] (by simp only [List.map_toArray, List.map_cons, List.map_nil]; rfl) (fun v w' => v = .int .i64 p3 ∧ ∃ M5 l5, Bs H M5 w' B { x1 with s := s3 } l5 ∧ Fr M2 y1 B M5 w') ?_ ?_
              · exact (SP.out _ BW.out).mono (by rintro e w' ⟨M5, l5, h1, h2, h3⟩; exact ⟨_, h1, rfl, M5, l5, h2, h3⟩)
              rintro _ y2 ⟨rfl, M5, l5, b9, f9⟩
              have hS : y2.cell? ⟨B, 0, none⟩ = some (.pointer (some ⟨H.c, 0, none⟩)) ∧ y2.cell? ⟨wy.heap.size, 0, none⟩ = some (.int .i64 pg) ∧ y2.cell? ⟨wy.heap.size, 1, none⟩ = some (.slice po T pc) := ⟨b9.2.2.1.cell 0 _ rfl, by rw [← hS.2.1]; exact World.cell?_of_block (f9.block (World.block_lt_of_cell? _ _ hS.2.1) DN.out.1 DN.out.2), by rw [← hS.2.2]; exact World.cell?_of_block (f9.block (World.block_lt_of_cell? _ _ hS.2.2) DN.out.1 DN.out.2)⟩
              have HB5 : Hid (Bs H M5 y2 B { x1 with s := s3 } l5) := b9
              have HF5 : Hid (Fr M w1 B M5 y2) := HF2.out.trans ((Fr.of_below BW.out).trans f9)
              clear b9 f9
              refine hK.out _ _ hS (fun _ => ?_)
              simp only [Act.put, zE1, zE2, zE3]
              clear hK K
              refine tkH 11 (some 11) (.int .i64 p3) rfl rfl (Or.inl ⟨by rfl, fun w' hw' => by rfl⟩) hS ?_
              simp only [Act.put, zE1, zE2, zE3]
              refine wpAnyH_done (by kernel_rfl) ?_ _
              clear hS
              by_cases h4 : p3 = 4
              · subst h4
                have EE : Hid (R = ({ x1 with s := s3 }, -1, 4)) := by
                  have e : RW = (s3, 4) := HRX.out
                  show R = _
                  rw [HQ.out.1, e]
                  rfl
                clear HQ HRX
                go_wp2
                (try rw [Exit.noGoto_ret])
                go_ret2
                have e := EE.out
                subst e
                exact ⟨M5, l5, rfl, HB5.out, (Fr.of_below B1.out).trans HF5.out⟩
              · have n4 : (p3 == 4) = false := beq_eq_false_iff_ne.2 h4
                by_cases h0 : p3 = 0
                · subst h0
                  have ER2 : Hid (wri H.N H.P H.T H.pl L k (n1 - (j + 1)) s3 (j + 1) = RW) := HRX.out.symm
                  clear h4 n4
                  go_wp2
                  go_roundg g2
                  case measure => omega
                  case rel => exact ⟨j + 1, s3, M5, l5, by omega, by first | rfl | go_num, ER2, HB5, HF5, by have := HPO.out; have := HO2.out; show _ ≤ _; omega⟩
                · have n0 : (p3 == 0) = false := beq_eq_false_iff_ne.2 h0
                  have ew : RW = (s3, p3) := by rw [HRX.out, if_neg h0]
                  have nq : ¬ (p3 = 0 ∨ p3 = 4) := fun z => z.elim h0 h4
                  have HQ : Hid (R = (if (dst H.P H.T H.pl { x1 with s := s3, bad := na.at1 x1.bad k true } k).2 = 4 then ((dst H.P H.T H.pl { x1 with s := s3, bad := na.at1 x1.bad k true } k).1, -1, 4) else wrl H.N H.P H.T H.pl L (LB.drop (i + 1)) (dst H.P H.T H.pl { x1 with s := s3, bad := na.at1 x1.bad k true } k).1) ∧ na.ops (dst H.P H.T H.pl { x1 with s := s3, bad := na.at1 x1.bad k true } k).1.s ≤ na.ops b'.s + L.length + 5) := by
                    obtain ⟨q1, q2⟩ := HQ.out
                    rw [ew] at q1 q2
                    exact ⟨by rw [q1, if_neg nq], q2 nq⟩
                  have SD : Hid (∀ w0 l0, Bs H M5 w0 B { x1 with s := s3, bad := na.at1 x1.bad k true } l0 → Calls Tryz.prog 72 #[.pointer (some ⟨B, 0, none⟩), .int .i64 (k : Int)] w0 (Opd H M5 w0 B (if (dst H.P H.T H.pl { x1 with s := s3, bad := na.at1 x1.bad k true } k).2 = 4 then 4 else 0) (dst H.P H.T H.pl { x1 with s := s3, bad := na.at1 x1.bad k true } k).1)) := fun w0 l0 b0 => destroy_any b0 k HK.out.1 (by have e := EX.out; subst e; exact na.at1_same _ _ _) (show na.ops s3 ≤ 999990 by have := HPO.out; have := HX2.out; omega)
                  clear h4 h0 nq ew HRX
                  generalize dst H.P H.T H.pl { x1 with s := s3, bad := na.at1 x1.bad k true } k = DD at HQ SD
                  obtain ⟨xd, pd⟩ := DD
                  have t5 := tR
                  by_cases hd : pd = 4
                  · subst hd
                    have EE : Hid (R = (xd, -1, 4)) := HQ.out.1
                    clear HQ
                    go_wp2_with (first
                      | (have q6 := t6; go_at_call 72; refine (SD.out w6 l5 HB6.out).mono ?_; rintro e9 w7 ⟨M6, l6, rfl, b9, f9⟩; have HB7 : Hid (Bs H M6 w7 B xd l6) := b9; have HF7 : Hid (Fr M w1 B M6 w7) := HF6.out.trans f9; clear b9 f9 t6; have t7 := tR)
                      | (have q5 := t5; (with_reducible refine at_store ?_); refine flag_law HB5.out (7 + k) true { x1 with s := s3, bad := na.at1 x1.bad k true } rfl rfl (by have := HK.out; omega) (set_bad H.c { x1 with s := s3 } true k HK.out.1) rfl rfl ?_; intro w6 b9 f9; have HB6 : Hid (Bs H M5 w6 B { x1 with s := s3, bad := na.at1 x1.bad k true } l5) := b9; have HF6 : Hid (Fr M w1 B M5 w6) := HF5.out.trans f9; clear b9 f9 t5; have t6 := tR))
                    (try rw [Exit.noGoto_ret])
                    go_ret2
                    have e := EE.out
                    subst e
                    exact ⟨M6, l6, rfl, HB7.out, (Fr.of_below B1.out).trans HF7.out⟩
                  · have EE : Hid (wrl H.N H.P H.T H.pl L (LB.drop (i + 1)) xd = R) := by show _ = _; rw [HQ.out.1, if_neg hd]
                    rw [if_neg (show ¬ ((xd, pd) : Bx × Int).2 = 4 from hd)] at SD
                    have HTO : Hid (na.ops xd.s ≤ na.ops b'.s + L.length + 5) := HQ.out.2
                    clear HQ hd
                    go_wp2_with (first
                      | (have q6 := t6; go_at_call 72; refine (SD.out w6 l5 HB6.out).mono ?_; rintro e9 w7 ⟨M6, l6, rfl, b9, f9⟩; have HB7 : Hid (Bs H M6 w7 B xd l6) := b9; have HF7 : Hid (Fr M w1 B M6 w7) := HF6.out.trans f9; clear b9 f9 t6; have t7 := tR)
                      | (have q5 := t5; (with_reducible refine at_store ?_); refine flag_law HB5.out (7 + k) true { x1 with s := s3, bad := na.at1 x1.bad k true } rfl rfl (by have := HK.out; omega) (set_bad H.c { x1 with s := s3 } true k HK.out.1) rfl rfl ?_; intro w6 b9 f9; have HB6 : Hid (Bs H M5 w6 B { x1 with s := s3, bad := na.at1 x1.bad k true } l5) := b9; have HF6 : Hid (Fr M w1 B M5 w6) := HF5.out.trans f9; clear b9 f9 t5; have t6 := tR))
                    go_roundg g
                    case measure => omega
                    case rel => exact ⟨i + 1, xd, M6, l6, by omega, by first | rfl | go_num, EE, HB7, HF7, by have := HO.out; have := HTO.out; have := EN.out; show _ ≤ _; omega⟩
end
end Go.Proofs.YtakibiigcdgohaaGreatDoor.vb
namespace Go.Proofs.YtakibiigcdgohaaGreatDoor.ck
open Go.ChangeShapes Go.WideShapes Go.ChangeAt Go.RowKit
set_option maxRecDepth 20000
def Bks (w : World) (v : Value) (bs : List (List (List Int))) : Prop := ∃ vs, Vals w v vs ∧ vs.length = bs.length ∧ ∀ i, i < bs.length → Pgs w (vs.getD i undef) (bs.getD i [])
end Go.Proofs.YtakibiigcdgohaaGreatDoor.ck
namespace Go.Proofs.YtakibiigcdgohaaGreatDoor.na
open Go.RowKit Go.Proofs.YtakibiigcdgohaaGreatDoor.fa
set_option maxRecDepth 20000
theorem bclone_own (v : Value) (xs : List Int) (w : World) (h : Byt w v xs) (hl : xs.length ≤ 140737488355328) :
    Calls Tryz.prog 48 #[v] w fun e w' => ∃ v', e = .returned v' ∧ Own w.heap.size w' v' xs ∧ Below w.heap.size w w' := by
  have HV : Hid (Byt (w.alloc (.cells #[] 5)) v xs) := h.below ((Below.refl _ _).alloc (Nat.le_refl _) _)
  obtain ⟨ao, cap, rfl, h1, h2, h3, h4, h5⟩ := h
  cases ao with
  | none =>
    have hc := h4 rfl
    subst hc
    have e : xs = [] := List.eq_nil_of_length_eq_zero (by omega)
    subst e
    have qn : ∀ w : World, (binOp .eql 35 (.slice none 0 0) (.slice none 0 0)).run Tryz.prog w = .ok (.bool true) w := fun w => Lib.run_eql_slice_nil w _ _ none 0 0 0 0 Tryz.underlying35
    clear h1 h2 h3 h4 h5 HV
    go_enter Tryz.func48, Tryz.ntmps48
    go_wp2
    go_ret
    exact ⟨_, rfl, ⟨by simp, .inl ⟨rfl, rfl⟩⟩, Below.refl _ _⟩
  | some ad =>
    have HO : Hid (Own w.heap.size (w.alloc (.cells #[] 5)) (.slice (some ⟨w.heap.size, 0, none⟩) 0 0) []) := Own.empty w (Nat.le_refl _)
    have B0 : Below w.heap.size w (w.alloc (.cells #[] 5)) := (Below.refl _ _).alloc (Nat.le_refl _) _
    have z0 := B0.size
    have qn : ∀ w : World, (binOp .eql 35 (.slice (some ad) xs.length cap) (.slice none 0 0)).run Tryz.prog w = .ok (.bool false) w := fun w => Lib.run_eql_slice_nil w _ _ (some ad) xs.length cap 0 0 Tryz.underlying35
    clear h3 h4 h5
    go_enter Tryz.func48, Tryz.ntmps48
    go_wp2_with (refine pushs_law _ rfl (.tmp 5) (.tmp 6) rfl w.heap.size z0 _ _ [] xs rfl rfl HO.out HV.out (by simp only [List.length_nil]; omega) ?_; intro v1 w1 O1 b1; rw [List.nil_append] at O1; have HO1 : Hid (Own w.heap.size w1 v1 xs) := O1; clear O1; have c1 : Below w.heap.size w w1 := B0.trans b1)
    go_ret
    exact ⟨_, rfl, HO1.out, c1⟩
theorem own_lessN {w : World} {B B' : Nat} {v : Value} {xs : List Int} (h : Own B w v xs) (hB : B' ≤ B) : Own B' w v xs := by
  refine ⟨h.1, ?_⟩
  rcases h.2 with q | ⟨g, cap, cur, q1, q2, q3⟩
  · exact .inl q
  · exact .inr ⟨g, cap, cur, q1, Nat.le_trans hB q2, q3⟩
section
variable {M : Nat → Bool} {w : World} {c r d : Nat} {q : Nat → Nat} {pv tv : Value} {g : List Int} {N P S : Nat} {pl : Pln} {X : Raw}
theorem read_own (h : Lay M w c r d q pv tv g N P S pl X) (p : List Int) (hp : p.length = 2) (ho : xo X = true) (b j : Nat) (e0 : gb p 0 = b) (e1 : gb p 1 = j) (hb : b < N) (hj : j < P) :
    Calls Tryz.prog 63 #[.pointer (some ⟨c, 0, none⟩), .agg (ints .i64 p)] w fun e w' => ∃ v, e = .returned (.tuple #[v, .int .i64 0]) ∧ Own w.heap.size w' v (cut S (xi X) (b * P + j)) ∧ Below w.heap.size w w' := by
  have HL : Hid (Lay M w c r d q pv tv g N P S pl X) := h
  have HON : Hid (xo X = true) := ho
  obtain ⟨n, hn⟩ : ∃ n, n = b * P + j := ⟨_, rfl⟩
  have HPG : Hid (gb p 0 = b ∧ gb p 1 = j ∧ b < N ∧ j < P ∧ n = b * P + j) := ⟨e0, e1, hb, hj, hn⟩
  have HK : Hid (n * S + S ≤ N * (P * S)) := by
    have := (idx_fits (S := S) hb hj).1
    rw [← hn, Nat.succ_mul] at this
    exact this
  have HB := h.bytes
  have HNM := h.num
  rw [← hn]
  clear h ho e0 e1 hb hj hn
  have t0 := tR
  go_enter Tryz.func63, Tryz.ntmps63
  go_wp2_with (first
    | (have q4 := t4; go_at_call 48; refine (bclone_own _ (cut S (xi X) n) _ (HL.out.part n S HK.out _ (by have := HK.out; omega) (by omega)) (by rw [cut_len2 HL.out n S HK.out]; omega)).mono ?_; rintro e w5 ⟨v5, rfl, y5, B5⟩; have Y5 : Hid (Own w3.heap.size w5 v5 (cut S (xi X) n)) := y5; have BB5 : Hid (Below w.heap.size w w5) := BB.out.trans (B5.mono BB.out.size); have Z3 : Hid (w.heap.size ≤ w3.heap.size) := BB.out.size; clear y5 B5 t4)
    | (have q3 := t3; go_at_call 83; refine (pageCells_yes HL.out p hp b j n HPG.out.1 HPG.out.2.1 HPG.out.2.2.1 HPG.out.2.2.2.1 HPG.out.2.2.2.2).mono ?_; rintro e w3 ⟨rfl, B3⟩; have HL : Hid (Lay M w3 c r d q pv tv g N P S pl X) := HL.out.below B3; have BB : Hid (Below w.heap.size w w3) := BB.out.trans (B3.mono BB.out.size); clear B3 t3; have t4 := tR)
    | (have q2 := t2; refine load_lawS _ (by rfl) _ _ rfl (ld_place hp HP.out.1) ?_; clear t2; have t3 := tR)
    | (have q1 := t1; go_at_call 38; refine (on_any c _ _ HL.out.cells.2.1).mono ?_; rintro e w' ⟨rfl, hw⟩; obtain rfl := hw.symm; rw [HON.out]; clear t1; have t2 := tR)
    | (have q0 := t0; refine box_lawF _ rfl (.tmp 1) 112 rfl .i64 p rfl ?_; intro w1 X1 B1 l1; have HP : Hid (Ar w1 w.heap.size 0 .i64 p) := X1; have HL : Hid (Lay M w1 c r d q pv tv g N P S pl X) := HL.out.below B1; have BB : Hid (Below w.heap.size w w1) := B1; clear X1 B1 t0; have t1 := tR))
  go_ret2
  exact ⟨_, rfl, own_lessN Y5.out Z3.out, BB5.out⟩
end
end Go.Proofs.YtakibiigcdgohaaGreatDoor.na
