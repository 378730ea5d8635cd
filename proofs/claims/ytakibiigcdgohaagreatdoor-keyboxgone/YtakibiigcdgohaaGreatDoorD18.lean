/- Parts of the proof: what KeyboxGone reaches. No claim of its own. -/
import Derived.WalkKit
import Derived.Deep.QuietTactic
import Derived.Laws.AppendOwnNone
import Derived.Deep.RegionHeld3
import Derived.Deep.DeepCutAuto
import Derived.Deep.WholeRow
import Derived.Deep.MidRow
import Derived.Laws.StructEq
import Derived.Lib.AppendZeros
import Derived.Lib.SliceRun
import Derived.WalkSmall
import Derived.ProofKit
import Derived.OpenShut
import Derived.BigQuiet
import Derived.Deep.DeepHandedRow
import Derived.Lib.LaidTab
import Derived.Deep.Matrix
import Derived.Test.YtakibiigcdgohaaGreatDoorD00
import Derived.Test.YtakibiigcdgohaaGreatDoorD01
import Derived.Test.YtakibiigcdgohaaGreatDoorD02
import Derived.Test.YtakibiigcdgohaaGreatDoorD03
import Derived.Test.YtakibiigcdgohaaGreatDoorD04
import Derived.Test.YtakibiigcdgohaaGreatDoorD05
import Derived.Test.YtakibiigcdgohaaGreatDoorD09
import Derived.Test.YtakibiigcdgohaaGreatDoorD10
import Derived.Test.YtakibiigcdgohaaGreatDoorD11
import Derived.Test.YtakibiigcdgohaaGreatDoorD12
import Derived.Test.YtakibiigcdgohaaGreatDoorD13
import Derived.Test.YtakibiigcdgohaaGreatDoorD14
import Derived.Test.YtakibiigcdgohaaGreatDoorD15
import Derived.Test.YtakibiigcdgohaaGreatDoorD16
import Derived.Test.YtakibiigcdgohaaGreatDoorD17
set_option maxHeartbeats 8000000
namespace Go.Proofs.YtakibiigcdgohaaGreatDoor.ck
open Go.RowKit Go.Proofs.YtakibiigcdgohaaGreatDoor.fa Go.Proofs.YtakibiigcdgohaaGreatDoor.he Go.Proofs.YtakibiigcdgohaaGreatDoor.pa
set_option maxRecDepth 20000
theorem rowy_geo : Rowy 23 6 := ⟨⟨_, Tryz.underlying23, rfl⟩, by kernel_rfl⟩
theorem own_apart {w : World} {B B' n n' k k' : Nat} {v v' : Value} {e e' : TypeId} {xs ys : List Value} (h : w.ownsRow B e k v n xs) (h' : w.ownsRow B' e' k' v' n' ys) (hne : e ≠ e') : v.ownBlock = none ∨ v.ownBlock ≠ v'.ownBlock := by
  rcases h.2 with ⟨rfl, -⟩ | ⟨g, cap, cur, rfl, -, hg, -⟩
  · exact Or.inl rfl
  · right
    intro e1
    rcases h'.2 with ⟨rfl, -⟩ | ⟨g', cap', cur', rfl, -, hg', -⟩
    · cases e1
    · have : g = g' := by injection e1
      subst this
      rw [hg] at hg'
      injection hg' with hg'
      injection hg' with _ h2
      exact absurd h2 hne
theorem own_grown {w w' : World} {B B' : Nat} {u v : Value} {x : List Int} {us : List Value} (h : Own B w u x) (ho : OwnR B' w v us) (hg : w.grownBy w' v.ownBlock) : Own B w' u x :=
  World.ownsRow.kept h hg (own_apart h ho (by decide))
def Pgk (B : Nat) (w : World) (v : Value) (F : Nat → List Int) (k : Nat) : Prop := ∃ vs, OwnR B w v vs ∧ vs.length = k ∧ ∀ i, i < k → Own B w (vs.getD i undef) (F i)
theorem Pgk.nil (B : Nat) (w : World) (F : Nat → List Int) : Pgk B w (.slice none 0 0) F 0 := ⟨[], ownr_nil B w, rfl, fun _ hi => absurd hi (Nat.not_lt_zero _)⟩
theorem Pgk.below {B : Nat} {w w' : World} {v : Value} {F : Nat → List Int} {k : Nat} (h : Pgk B w v F k) (hb : Below w.heap.size w w') : Pgk B w' v F k := by
  obtain ⟨vs, h1, h2, h3⟩ := h
  exact ⟨vs, h1.below hb, h2, fun i hi => own_low (h3 i hi) hb⟩
theorem Pgk.less {B B' : Nat} {w : World} {v : Value} {F : Nat → List Int} {k : Nat} (h : Pgk B w v F k) (hB : B' ≤ B) : Pgk B' w v F k := by
  obtain ⟨vs, h1, h2, h3⟩ := h
  exact ⟨vs, h1.less hB, h2, fun i hi => own_less (h3 i hi) hB⟩
theorem Pgk.form {B : Nat} {w : World} {v : Value} {F : Nat → List Int} {k : Nat} (h : Pgk B w v F k) : ∃ ao cap, v = .slice ao k cap := by
  obtain ⟨vs, h1, h2, -⟩ := h
  obtain ⟨ao, cap, e, -⟩ := h1.vals
  rw [h2] at e
  exact ⟨ao, cap, e⟩
section
variable {ops : Array Oper} {rest : List Oper} {o : Oper} {a : Act} {Q : Exit → Act → World → Prop} {K : Act → World → Prop} {E : Prop}
theorem step_pushP (w : World) (hw : Region.wanted o (yielded ops a.tmps) = true) (d : Option Tmp) (hd : o.dst = d) (s x : Operand) (hop : o.op = .call { callee := .builtin .append, args := #[s, x], argTypes := #[68, 68] })
    (B B' : Nat) (hB : B ≤ w.heap.size) (v vy u : Value) (F : Nat → List Int) (k : Nat) (hs : a.eval s = v) (hx : a.eval x = vy) (hP : Pgk B w v F k) (hy : OwnR B' w vy [u]) (hu : Own B w u (F k)) (hSl : Sle u) (hk : k ≤ 1000)
    (hK : ∀ v' w', Pgk B w' v' F (k + 1) → Below B w w' → (∀ B'' z xs, Own B'' w z xs → Own B'' w' z xs) → K (a.put d v') w') : if Region.wanted o (yielded ops a.tmps) = true then Oper.wp Tryz.prog o a w K Q else E := by
  obtain ⟨vs, h1, h2, h3⟩ := hP
  refine step_pushsR w hw d hd s x hop B hB v vy vs [u] hs hx h1 hy.vals (fun z hz => by simp at hz; subst hz; exact hSl) (by omega) (by simp) fun v' w' o' b' g' => ?_
  have keep : ∀ B'' z xs, Own B'' w z xs → Own B'' w' z xs := fun B'' z xs h => own_grown h h1 g'
  refine hK v' w' ⟨vs ++ [u], o', by simp [h2], fun i hi => ?_⟩ b' keep
  by_cases e : i = k
  · subst e
    rw [List.getD_eq_getElem?_getD, List.getElem?_append_right (by omega), h2, Nat.sub_self]
    exact keep _ _ _ hu
  · rw [List.getD_eq_getElem?_getD, List.getElem?_append_left (by omega), ← List.getD_eq_getElem?_getD]
    exact keep _ _ _ (h3 i (by omega))
theorem push_lawP (w : World) (hg : o.guard = none) (s x : Operand) (hop : o.op = .call { callee := .builtin .append, args := #[s, x], argTypes := #[68, 68] })
    (B B' : Nat) (hB : B ≤ w.heap.size) (v vy u : Value) (F : Nat → List Int) (k : Nat) (hs : a.eval s = v) (hx : a.eval x = vy) (hP : Pgk B w v F k) (hy : OwnR B' w vy [u]) (hu : Own B w u (F k)) (hSl : Sle u) (hk : k ≤ 1000)
    (hK : ∀ v' w', Pgk B w' v' F (k + 1) → Below B w w' → (∀ B'' z xs, Own B'' w z xs → Own B'' w' z xs) → wpList Tryz.prog ops Q rest (a.put o.dst v') w') : wpList Tryz.prog ops Q (o :: rest) a w := by
  refine wpList_step fun K hK' => ?_
  exact step_pushP w (by simp [Region.wanted, hg]) o.dst rfl s x hop B B' hB v vy u F k hs hx hP hy hu hSl hk fun v' w' h1 h2 h3 => hK' _ _ (hK v' w' h1 h2 h3)
end
theorem own_sle {B : Nat} {w : World} {v : Value} {xs : List Int} (h : Own B w v xs) : Sle v := by
  rcases h.2 with ⟨rfl, -⟩ | ⟨g, cap, cur, rfl, -⟩
  · exact ⟨_, _, _, rfl⟩
  · exact ⟨_, _, _, rfl⟩
def P255 (S : Nat) (xs : List Int) (gen : Int) (i : Nat) : List Int := pgk S xs gen (List.replicate 8 255) i
theorem pgk_all {S i : Nat} {xs : List Int} {gen : Int} {mk : List Int} (h1 : 32 ≤ S) (h2 : S ≤ 4096) (hi : i < nc S) (ha : AllB xs) (hm : AllB mk) : AllB (pgk S xs gen mk i) := by
  unfold pgk kend
  exact allB_app (sec_all ha i) (pa.hend_all (rh_k h1 h2 hi) (allB_replicate 255 _ (by omega)) hm)
theorem p255_all {S i : Nat} {xs : List Int} {gen : Int} (h1 : 32 ≤ S) (h2 : S ≤ 4096) (hi : i < nc S) (ha : AllB xs) : AllB (P255 S xs gen i) := pgk_all h1 h2 hi ha (allB_replicate 255 _ (by omega))
theorem make_p255 {S i : Nat} {xs : List Int} {gen : Int} (h1 : 32 ≤ S) (h2 : S ≤ 4096) (hl : xs.length = 624) (hi : i < nc S) : plo S (sec S xs i) ++ hend (hb 4 (i : Int) 0 (nc S : Int) gen 0) (tgo []) (List.replicate 8 255) = P255 S xs gen i := by
  have e := sec_len h1 h2 hl hi
  unfold plo P255 pgk kend
  rw [if_neg (by omega)]
  rfl
end Go.Proofs.YtakibiigcdgohaaGreatDoor.ck
namespace Go.Proofs.YtakibiigcdgohaaGreatDoor.ck
open Go.RowKit Go.Proofs.YtakibiigcdgohaaGreatDoor.fa Go.Proofs.YtakibiigcdgohaaGreatDoor.he Go.Proofs.YtakibiigcdgohaaGreatDoor.pa
set_option maxRecDepth 20000
theorem pages_yes (g0 g1 g3 g4 g5 : Int) (S : Nat) (v : Value) (xs : List Int) (gen : Int) (w : World) (hr : ge.Rt [g0, g1, (S : Int), g3, g4, g5]) (hb : Byt w v xs) (hl : xs.length = 624) (hg : 0 ≤ gen ∧ gen ≤ 18446744073709551615) (hT : Tab w) :
    Calls Tryz.prog 67 #[.agg (ints .i64 [g0, g1, (S : Int), g3, g4, g5]), v, .int .u64 gen] w fun x w' => ∃ r, x = .returned (.tuple #[r, .int .i64 0]) ∧ Pgk w.heap.size w' r (P255 S xs gen) (nc S) ∧ Below w.heap.size w w' := by
  have ⟨s1, s2⟩ := rt_sec hr
  have hn := nc_le s1 s2
  have SK : Hid (∀ w0, Calls Tryz.prog 33 #[.agg (ints .i64 [g0, g1, (S : Int), g3, g4, g5])] w0 fun x w' => x = .returned (.int .i64 0) ∧ Below w0.heap.size w0 w') := ge.check_yes [g0, g1, (S : Int), g3, g4, g5] rfl hr
  have SS : Hid (∀ w0, Below w.heap.size w w0 → Calls Tryz.prog 89 #[.agg (ints .i64 [g0, g1, (S : Int), g3, g4, g5]), v] w0 fun x w' => ∃ ro rc, x = .returned (.slice ro (nc S) rc) ∧ Pgs w' (.slice ro (nc S) rc) (secs S xs) ∧ Below w0.heap.size w0 w') := fun w0 q => (sectors_any g0 g1 g3 g4 g5 S v xs w0 (hb.below q) hl hr).mono fun _ _ ⟨r, e, hp, hB⟩ => by
    obtain ⟨ao, cap, rfl, -⟩ := hp.at
    rw [secs_len] at e hp
    exact ⟨ao, cap, e, hp, hB⟩
  have SH : Hid (∀ {k : Nat} w0, Calls Tryz.prog 82 #[.agg (ints .i64 [g0, g1, (S : Int), g3, g4, g5]), .int .i64 (k : Int), .int .u64 gen] w0 fun x w' => x = .returned (.agg (hv 4 (k : Int) 0 (nc S : Int) gen 0).toArray) ∧ Below w0.heap.size w0 w') := fun {k} w0 => headof_any g0 g1 g3 g4 g5 S k gen w0 hr
  have SM : Hid (∀ {k : Nat} w0 u, k < nc S → Below w.heap.size w w0 → Byt w0 u (sec S xs k) → Calls Tryz.prog 90 #[.agg (ints .i64 [g0, g1, (S : Int), g3, g4, g5]), .agg (hv 4 (k : Int) 0 (nc S : Int) gen 0).toArray, u, .slice none 0 0] w0 fun x w' => ∃ v, x = .returned (.tuple #[v, .int .i64 0]) ∧ Own w0.heap.size w' v (P255 S xs gen k) ∧ Below w0.heap.size w0 w') := fun {k} w0 u hk q hu => by
    have z := make_yes g0 g1 g3 g4 g5 S 4 k 0 (nc S) gen 0 u (.slice none 0 0) (sec S xs k) [] w0 hu (Byt.nil w0) ⟨⟨by omega, by omega⟩, hg, by omega, by omega⟩ (hT.below q) hr (.inr (sec_len s1 s2 hl hk)) (rh_k s1 s2 hk) (.inl rfl)
    rwa [make_p255 s1 s2 hl hk] at z
  have LS : Hid ((secs S xs).length = nc S ∧ ∀ i, i < nc S → (secs S xs).getD i [] = sec S xs i) := ⟨secs_len S xs, fun i hi => secs_at S xs i hi⟩
  have ⟨ao, cap, ev⟩ := byt_form hb hl
  subst ev
  generalize P255 S xs gen = F at SM ⊢
  generalize secs S xs = ss at SS LS
  generalize sec S xs = sq at SM LS
  generalize nc S = N at SS SH SM LS hn ⊢
  have n1 : 1 ≤ N := hn.1
  have n20 : N ≤ 20 := hn.2.1
  clear hr hb hl hn hT hg s1 s2
  have t0 := tR
  go_enter Tryz.func67, Tryz.ntmps67
  go_wp2_with (first
    | (have q2 := t2; go_at_call 89; refine (SS.out w2 BB.out).mono ?_; rintro e9 w3 ⟨so9, sc9, rfl, y9, B9⟩; have HB0 : Hid (Vr w3 w.heap.size [.int .i64 g0, .int .i64 g1, .int .i64 (S : Int), .int .i64 g3, .int .i64 g4, .int .i64 g5]) := HB0.out.below B9 (range_lt HB0.out.1 (Nat.succ_pos _)); have HP : Hid (Pgs w3 (.slice so9 N sc9) ss) := y9; have BB : Hid (Below w.heap.size w w3) := BB.out.trans (B9.mono BB.out.size); clear hb0_0 hb0_1 hb0_2 hb0_3 hb0_4 hb0_5; have hb0_0 := HB0.out.cell 0 _ rfl; have hb0_1 := HB0.out.cell 1 _ rfl; have hb0_2 := HB0.out.cell 2 _ rfl; have hb0_3 := HB0.out.cell 3 _ rfl; have hb0_4 := HB0.out.cell 4 _ rfl; have hb0_5 := HB0.out.cell 5 _ rfl; clear B9 y9; clear t2; have t3 := tR)
    | (have q1 := t1; go_at_call 33; refine (SK.out w1).mono ?_; rintro e9 w2 ⟨rfl, B9⟩; have HB0 : Hid (Vr w2 w.heap.size [.int .i64 g0, .int .i64 g1, .int .i64 (S : Int), .int .i64 g3, .int .i64 g4, .int .i64 g5]) := HB0.out.below B9 (range_lt HB0.out.1 (Nat.succ_pos _)); have BB : Hid (Below w.heap.size w w2) := BB.out.trans (B9.mono BB.out.size); clear hb0_0 hb0_1 hb0_2 hb0_3 hb0_4 hb0_5; have hb0_0 := HB0.out.cell 0 _ rfl; have hb0_1 := HB0.out.cell 1 _ rfl; have hb0_2 := HB0.out.cell 2 _ rfl; have hb0_3 := HB0.out.cell 3 _ rfl; have hb0_4 := HB0.out.cell 4 _ rfl; have hb0_5 := HB0.out.cell 5 _ rfl; clear B9; clear t1; have t2 := tR)
    | (have q0 := t0; refine box_lawC _ [.int .i64 g0, .int .i64 g1, .int .i64 (S : Int), .int .i64 g3, .int .i64 g4, .int .i64 g5] rfl ?_; intro w1 X9 B9 l9; have HB0 : Hid (Vr w1 w.heap.size [.int .i64 g0, .int .i64 g1, .int .i64 (S : Int), .int .i64 g3, .int .i64 g4, .int .i64 g5]) := X9; have BB : Hid (Below w.heap.size w w1) := B9; have hb0_0 := HB0.out.cell 0 _ rfl; have hb0_1 := HB0.out.cell 1 _ rfl; have hb0_2 := HB0.out.cell 2 _ rfl; have hb0_3 := HB0.out.cell 3 _ rfl; have hb0_4 := HB0.out.cell 4 _ rfl; have hb0_5 := HB0.out.cell 5 _ rfl; clear X9 B9 l9; clear t0; have t1 := tR))
  have BY : Hid (Below w.heap.size w w3) := BB.out
  go_loopw [25, 8] (fun i r wr => ∃ k : Nat, k ≤ N ∧ i = .int .i64 (k : Int) ∧ Pgk w3.heap.size wr r F k ∧ Below w3.heap.size w3 wr) (fun i _ _ => N - (intOf i).toNat)
  case atStart => exact ⟨0, Nat.zero_le _, rfl, Pgk.nil _ _ _, Below.refl _ _⟩
  case round =>
    obtain ⟨k, hk, rfl, hR, hB⟩ := hrel
    have BB : Hid (Below w3.heap.size w3 wr) := hB
    clear hB
    by_cases hlt : k < N
    · have lk : (k : Int) < (N : Int) := by omega
      have HR : Hid (Pgk w3.heap.size wr u8 F k) := hR
      obtain ⟨ao', cap', e9, -, -, h9⟩ := HP.out.at
      rw [LS.out.1] at e9 h9
      cases e9
      obtain ⟨b, off, rfl, hc⟩ := h9 (by omega)
      obtain ⟨u, hu1, hu2⟩ := hc k hlt
      rw [LS.out.2 k hlt] at hu2
      have HU : Hid (Byt w3 u (sq k)) := hu2
      have hu1 : wr.cell? ⟨b, off + k, none⟩ = some u := by rw [BB.out.cell (World.block_lt_of_cell? _ _ hu1)]; exact hu1
      clear hR hc h9 hu2
      go_wp2
      have HR : Hid (Pgk w3.heap.size wr.drew u8 F k) := HR.out.below (Below.refl _ _).drew
      refine wp_region_held_drew (S := fun w' => Below w3.heap.size w3 w') (by kernel_rfl) BB.out.drew (fun hS => ?_)
      obtain ⟨x1, hx0⟩ : ∃ x, x = wr.drew := ⟨_, rfl⟩
      rw [← hx0] at hS HR ⊢
      clear hx0
      refine tkH 0 (some 31) (.agg ([.int .i64 g0, .int .i64 g1, .int .i64 (S : Int), .int .i64 g3, .int .i64 g4, .int .i64 g5] : List Value).toArray) rfl rfl (Or.inl ⟨by rfl, fun w' hw' => by exact exec_loadN 23 (.tmp 3) rfl _ rfl _ _ (load_cells rowy_geo (HB0.out.below hw' (range_lt HB0.out.1 (Nat.succ_pos _))).1)⟩) hS ?_
      simp only [Act.put, zE1, zE2, zE3]
      refine tkH 1 (some 32) (.agg ([.int .i64 g0, .int .i64 g1, .int .i64 (S : Int), .int .i64 g3, .int .i64 g4, .int .i64 g5] : List Value).toArray) rfl rfl (Or.inl ⟨by rfl, fun w' hw' => by exact exec_loadN 23 (.tmp 3) rfl _ rfl _ _ (load_cells rowy_geo (HB0.out.below hw' (range_lt HB0.out.1 (Nat.succ_pos _))).1)⟩) hS ?_
      simp only [Act.put, zE1, zE2, zE3]
      refine tkH 2 (some 33) (.int .i64 (k : Int)) rfl rfl (Or.inl ⟨by rfl, fun w' hw' => by rfl⟩) hS ?_
      simp only [Act.put, zE1, zE2, zE3]
      refine tkH 3 (some 34) (.int .u64 gen) rfl rfl (Or.inl ⟨by rfl, fun w' hw' => by rfl⟩) hS ?_
      simp only [Act.put, zE1, zE2, zE3]
      refine tkH 5 (some 36) (u) rfl rfl (Or.inl ⟨by rfl, fun w' hw' => by rfl⟩) hS ?_
      simp only [Act.put, zE1, zE2, zE3]
      refine wpAnyH_ready (rs := [4]) (by kernel_rfl) (by simp) ?_
      refine AllReadyH.cons rfl (fun K hK => ?_) AllReadyH.nil
      refine step_callW _ (by rfl) (some 35) rfl 82 #[.tmp 32, .tmp 33, .tmp 34] #[23, 3, 41] rfl (fun q w' => by rfl) #[.agg ([.int .i64 g0, .int .i64 g1, .int .i64 (S : Int), .int .i64 g3, .int .i64 g4, .int .i64 g5] : List Value).toArray, .int .i64 (k : Int), .int .u64 gen] (by simp only [List.map_toArray, List.map_cons, List.map_nil]; rfl) (fun u w' => u = .agg (hv 4 (k : Int) 0 (N : Int) gen 0).toArray ∧ Below x1.heap.size x1 w') ?_ ?_
      · exact (SH.out x1).mono fun e w' ⟨h1, h2⟩ => ⟨_, h1, rfl, h2⟩
      rintro _ x2 ⟨rfl, hb⟩
      have HR : Hid (Pgk w3.heap.size x2 u8 F k) := HR.out.below hb
      have hS : Below w3.heap.size w3 x2 := hS.trans (hb.mono hS.size)
      clear hb
      refine hK.out _ _ hS (fun _ => ?_)
      simp only [Act.put, zE1, zE2, zE3]
      clear hK K
      refine wpAnyH_ready (rs := [6]) (by kernel_rfl) (by simp) ?_
      refine AllReadyH.cons rfl (fun K hK => ?_) AllReadyH.nil
      refine step_callW _ (by rfl) (some 37) rfl 90 #[.tmp 31, .tmp 35, .tmp 36, .const (.slice none 0 0)] #[23, 119, 35, 35] rfl (fun q w' => by rfl) #[.agg ([.int .i64 g0, .int .i64 g1, .int .i64 (S : Int), .int .i64 g3, .int .i64 g4, .int .i64 g5] : List Value).toArray, .agg (hv 4 (k : Int) 0 (N : Int) gen 0).toArray, u, .slice none 0 0] (by simp only [List.map_toArray, List.map_cons, List.map_nil]; rfl) (fun u w' => (∃ v, u = .tuple #[v, .int .i64 0] ∧ Own x2.heap.size w' v (F k)) ∧ Below x2.heap.size x2 w') ?_ ?_
      · exact (SM.out x2 u hlt (BY.out.trans (hS.mono BY.out.size)) (HU.out.below hS)).mono fun e w' ⟨v, h1, h2, h3⟩ => ⟨_, h1, ⟨v, rfl, h2⟩, h3⟩
      rintro _ x3 ⟨⟨pv, rfl, o9⟩, hb⟩
      have HR : Hid (Pgk w3.heap.size x3 u8 F k) := HR.out.below hb
      have HO : Hid (Own w3.heap.size x3 pv (F k)) := own_less o9 hS.size
      clear o9
      have hS : Below w3.heap.size w3 x3 := hS.trans (hb.mono hS.size)
      clear hb
      refine hK.out _ _ hS (fun _ => ?_)
      simp only [Act.put, zE1, zE2, zE3]
      clear hK K
      refine tkH 7 (some 30) (.tuple #[pv, .int .i64 0]) rfl rfl (Or.inl ⟨by rfl, fun w' hw' => by rfl⟩) hS ?_
      simp only [Act.put, zE1, zE2, zE3]
      refine tkH 8 (some 38) (pv) rfl rfl (Or.inl ⟨by rfl, fun w' hw' => by rfl⟩) hS ?_
      simp only [Act.put, zE1, zE2, zE3]
      refine tkH 9 (some 39) (.int .i64 0) rfl rfl (Or.inl ⟨by rfl, fun w' hw' => by rfl⟩) hS ?_
      simp only [Act.put, zE1, zE2, zE3]
      refine tkH 10 (some 11) (pv) rfl rfl (Or.inl ⟨by rfl, fun w' hw' => by rfl⟩) hS ?_
      simp only [Act.put, zE1, zE2, zE3]
      refine tkH 11 (some 12) (.int .i64 0) rfl rfl (Or.inl ⟨by rfl, fun w' hw' => by rfl⟩) hS ?_
      simp only [Act.put, zE1, zE2, zE3]
      refine wpAnyH_done (by kernel_rfl) ?_ _
      have t50 := tR
      go_wp2_with (first
        | (have q51 := t51; at_builtin; refine push_lawP _ rfl (.tmp 40) (.tmp 42) rfl w3.heap.size x3.heap.size hS.out.size u8 _ pv F k rfl rfl HR.out O8.out HO.out (own_sle HO.out) (by omega) ?_; intro v3 wz o9 B9 k9; have HZ : Hid (Pgk w3.heap.size wz v3 F (k + 1)) := o9; have BZ : Hid (Below w3.heap.size w3 wz) := hS.out.trans B9; clear o9 B9 k9 t51 hS)
        | (have q50 := t50; refine one_lawR _ rfl (.tmp 41) rfl pv (own_sle HO.out) rfl ?_; intro wy o8 B8; have O8 : Hid (OwnR x3.heap.size wy (.slice (some ⟨x3.heap.size, 0, none⟩) 1 1) [pv]) := o8; have HR : Hid (Pgk w3.heap.size wy u8 F k) := HR.out.below B8; have HO : Hid (Own w3.heap.size wy pv (F k)) := own_low HO.out B8; have hS : Hid (Below w3.heap.size w3 wy) := hS.trans (B8.mono hS.size); clear o8 B8 t50; have t51 := tR))
      go_roundw
      case rel => exact ⟨k + 1, by omega, by go_num, HZ.out, BZ.out⟩
      case measure => simp [intOf]; omega
    · have ek : k = N := by omega
      subst ek
      have HR : Hid (Pgk w3.heap.size wr u8 F k) := hR
      clear hR
      go_wp2
      go_ret2
      exact ⟨_, rfl, HR.out.less BY.out.size, BY.out.trans (BB.out.mono BY.out.size)⟩
end Go.Proofs.YtakibiigcdgohaaGreatDoor.ck
namespace Go.Proofs.YtakibiigcdgohaaGreatDoor.pa
open Go.RowKit Go.Proofs.YtakibiigcdgohaaGreatDoor.fa Go.Proofs.YtakibiigcdgohaaGreatDoor.he
set_option maxRecDepth 20000
theorem done_err (g0 g1 g2 g3 g4 g5 : Int) (v : Value) (kd : Int) (w : World) (E : Int) (hE : E ≠ 0) (hR : ∀ w0, Below w.heap.size w w0 → Calls Tryz.prog 81 #[.agg (ints .i64 [g0, g1, g2, g3, g4, g5]), v] w0 fun x w' => x = .returned (.tuple #[.agg Z9.toArray, .int .i64 E]) ∧ Below w0.heap.size w0 w') :
    Calls Tryz.prog 80 #[.agg (ints .i64 [g0, g1, g2, g3, g4, g5]), v, .int .i64 kd] w fun x w' => x = .returned (.tuple #[.agg Z9.toArray, .bool false]) ∧ Below w.heap.size w w' := by
  have SR : Hid (∀ w0, Below w.heap.size w w0 → Calls Tryz.prog 81 #[.agg (ints .i64 [g0, g1, g2, g3, g4, g5]), v] w0 fun x w' => x = .returned (.tuple #[.agg Z9.toArray, .int .i64 E]) ∧ Below w0.heap.size w0 w') := hR
  have n0 : (E != 0) = true := bne_iff_ne.2 hE
  clear hR hE
  have t0 := tR
  go_enter Tryz.func80, Tryz.ntmps80
  go_wp2_with (first
    | (have q6 := t6; (with_reducible refine at_store ?_); refine store_lawC _ Z9 w1.heap.size 0 rfl rfl HV6.out.2 rowy_page.2 (pg9_one _ _ _ _ _ _ _ _ _ _ _ _ _) ?_; intro w6 E9 R9 T9 B9; have K9 : ∀ k, k ≠ w1.heap.size → w6.heap[k]? = w5.heap[k]? := (by rw [E9.out]; exact fun k hk => heap_cells _ _ _ _ k hk); have HB0 : Hid (Vr w6 w.heap.size [.int .i64 g0, .int .i64 g1, .int .i64 g2, .int .i64 g3, .int .i64 g4, .int .i64 g5]) := HB0.out.heap (K9 _ (Nat.ne_of_lt LT_HB0_HV6.out)); have NB_HV8 : Hid (NoB w6 w3.heap.size) := NB_HV8.out.heap (K9 _ (Nat.ne_of_gt LT_HV6_HV8.out)); have HV8 : Hid (Vr w6 w3.heap.size Z9) := HV8.out.heap (K9 _ (Nat.ne_of_gt LT_HV6_HV8.out)); have NB_HV6 : Hid (NoB w6 w1.heap.size) := (by rw [E9.out]; exact NB_HV6.out.set HV6.out rfl (pg9_nob _ _ _ _ _ _ _ _ _ _ _ _ _)); have HV6 : Hid (Vr w6 w1.heap.size Z9) := ⟨R9, T9⟩; have BB : Hid (Below w.heap.size w w6) := BB.out.trans (B9.mono LE_HV6.out); clear hb0_0 hb0_1 hb0_2 hb0_3 hb0_4 hb0_5; have hb0_0 := HB0.out.cell 0 _ rfl; have hb0_1 := HB0.out.cell 1 _ rfl; have hb0_2 := HB0.out.cell 2 _ rfl; have hb0_3 := HB0.out.cell 3 _ rfl; have hb0_4 := HB0.out.cell 4 _ rfl; have hb0_5 := HB0.out.cell 5 _ rfl; clear E9 R9 T9 B9 K9; clear t6; have t7 := tR)
    | (have q5 := t5; refine build_law _ rfl 152 _ rfl (.agg Z9.toArray) (by kernel_rfl) ?_; clear t5; have t6 := tR)
    | (have q4 := t4; (with_reducible refine at_store ?_); refine store_lawC _ Z9 w3.heap.size 0 rfl rfl HV8.out.2 rowy_page.2 (pg9_one _ _ _ _ _ _ _ _ _ _ _ _ _) ?_; intro w5 E9 R9 T9 B9; have K9 : ∀ k, k ≠ w3.heap.size → w5.heap[k]? = w4.heap[k]? := (by rw [E9.out]; exact fun k hk => heap_cells _ _ _ _ k hk); have HB0 : Hid (Vr w5 w.heap.size [.int .i64 g0, .int .i64 g1, .int .i64 g2, .int .i64 g3, .int .i64 g4, .int .i64 g5]) := HB0.out.heap (K9 _ (Nat.ne_of_lt LT_HB0_HV8.out)); have NB_HV6 : Hid (NoB w5 w1.heap.size) := NB_HV6.out.heap (K9 _ (Nat.ne_of_lt LT_HV6_HV8.out)); have HV6 : Hid (Vr w5 w1.heap.size Z9) := HV6.out.heap (K9 _ (Nat.ne_of_lt LT_HV6_HV8.out)); have NB_HV8 : Hid (NoB w5 w3.heap.size) := (by rw [E9.out]; exact NB_HV8.out.set HV8.out rfl (pg9_nob _ _ _ _ _ _ _ _ _ _ _ _ _)); have HV8 : Hid (Vr w5 w3.heap.size Z9) := ⟨R9, T9⟩; have BB : Hid (Below w.heap.size w w5) := BB.out.trans (B9.mono LE_HV8.out); clear hb0_0 hb0_1 hb0_2 hb0_3 hb0_4 hb0_5; have hb0_0 := HB0.out.cell 0 _ rfl; have hb0_1 := HB0.out.cell 1 _ rfl; have hb0_2 := HB0.out.cell 2 _ rfl; have hb0_3 := HB0.out.cell 3 _ rfl; have hb0_4 := HB0.out.cell 4 _ rfl; have hb0_5 := HB0.out.cell 5 _ rfl; clear E9 R9 T9 B9 K9; clear t4; have t5 := tR)
    | (have q3 := t3; (with_reducible refine at_alloc ?_); refine new_lawN _ Z9 zero_page (pg9_nob _ _ _ _ _ _ _ _ _ _ _ _ _) ?_; intro w4 X9 N9 B9; have LT_HB0_HV8 : Hid (w.heap.size < w3.heap.size) := range_lt HB0.out.1 (Nat.succ_pos _); have LT_HV6_HV8 : Hid (w1.heap.size < w3.heap.size) := range_lt HV6.out.1 (Nat.succ_pos _); have LE_HV8 : Hid (w.heap.size ≤ w3.heap.size) := BB.out.size; have HB0 : Hid (Vr w4 w.heap.size [.int .i64 g0, .int .i64 g1, .int .i64 g2, .int .i64 g3, .int .i64 g4, .int .i64 g5]) := HB0.out.below B9 (range_lt HB0.out.1 (Nat.succ_pos _)); have NB_HV6 : Hid (NoB w4 w1.heap.size) := NB_HV6.out.heap (B9.block _ (range_lt HV6.out.1 (Nat.succ_pos _))); have HV6 : Hid (Vr w4 w1.heap.size Z9) := HV6.out.below B9 (range_lt HV6.out.1 (Nat.succ_pos _)); have HV8 : Hid (Vr w4 w3.heap.size Z9) := X9; have NB_HV8 : Hid (NoB w4 w3.heap.size) := N9; have BB : Hid (Below w.heap.size w w4) := BB.out.trans (B9.mono BB.out.size); clear hb0_0 hb0_1 hb0_2 hb0_3 hb0_4 hb0_5; have hb0_0 := HB0.out.cell 0 _ rfl; have hb0_1 := HB0.out.cell 1 _ rfl; have hb0_2 := HB0.out.cell 2 _ rfl; have hb0_3 := HB0.out.cell 3 _ rfl; have hb0_4 := HB0.out.cell 4 _ rfl; have hb0_5 := HB0.out.cell 5 _ rfl; clear X9 N9 B9; clear t3; have t4 := tR)
    | (have q2 := t2; go_at_call 81; refine (SR.out w2 BB.out).mono ?_; rintro e9 w3 ⟨rfl, B9⟩; have HB0 : Hid (Vr w3 w.heap.size [.int .i64 g0, .int .i64 g1, .int .i64 g2, .int .i64 g3, .int .i64 g4, .int .i64 g5]) := HB0.out.below B9 (range_lt HB0.out.1 (Nat.succ_pos _)); have NB_HV6 : Hid (NoB w3 w1.heap.size) := NB_HV6.out.heap (B9.block _ (range_lt HV6.out.1 (Nat.succ_pos _))); have HV6 : Hid (Vr w3 w1.heap.size Z9) := HV6.out.below B9 (range_lt HV6.out.1 (Nat.succ_pos _)); have BB : Hid (Below w.heap.size w w3) := BB.out.trans (B9.mono BB.out.size); clear hb0_0 hb0_1 hb0_2 hb0_3 hb0_4 hb0_5; have hb0_0 := HB0.out.cell 0 _ rfl; have hb0_1 := HB0.out.cell 1 _ rfl; have hb0_2 := HB0.out.cell 2 _ rfl; have hb0_3 := HB0.out.cell 3 _ rfl; have hb0_4 := HB0.out.cell 4 _ rfl; have hb0_5 := HB0.out.cell 5 _ rfl; clear B9; clear t2; have t3 := tR)
    | (have q1 := t1; (with_reducible refine at_alloc ?_); refine new_lawN _ Z9 zero_page (pg9_nob _ _ _ _ _ _ _ _ _ _ _ _ _) ?_; intro w2 X9 N9 B9; have LT_HB0_HV6 : Hid (w.heap.size < w1.heap.size) := range_lt HB0.out.1 (Nat.succ_pos _); have LE_HV6 : Hid (w.heap.size ≤ w1.heap.size) := BB.out.size; have HB0 : Hid (Vr w2 w.heap.size [.int .i64 g0, .int .i64 g1, .int .i64 g2, .int .i64 g3, .int .i64 g4, .int .i64 g5]) := HB0.out.below B9 (range_lt HB0.out.1 (Nat.succ_pos _)); have HV6 : Hid (Vr w2 w1.heap.size Z9) := X9; have NB_HV6 : Hid (NoB w2 w1.heap.size) := N9; have BB : Hid (Below w.heap.size w w2) := BB.out.trans (B9.mono BB.out.size); clear hb0_0 hb0_1 hb0_2 hb0_3 hb0_4 hb0_5; have hb0_0 := HB0.out.cell 0 _ rfl; have hb0_1 := HB0.out.cell 1 _ rfl; have hb0_2 := HB0.out.cell 2 _ rfl; have hb0_3 := HB0.out.cell 3 _ rfl; have hb0_4 := HB0.out.cell 4 _ rfl; have hb0_5 := HB0.out.cell 5 _ rfl; clear X9 N9 B9; clear t1; have t2 := tR)
    | (have q0 := t0; refine box_lawC _ [.int .i64 g0, .int .i64 g1, .int .i64 g2, .int .i64 g3, .int .i64 g4, .int .i64 g5] rfl ?_; intro w1 X9 B9 l9; have HB0 : Hid (Vr w1 w.heap.size [.int .i64 g0, .int .i64 g1, .int .i64 g2, .int .i64 g3, .int .i64 g4, .int .i64 g5]) := X9; have BB : Hid (Below w.heap.size w w1) := B9; have hb0_0 := HB0.out.cell 0 _ rfl; have hb0_1 := HB0.out.cell 1 _ rfl; have hb0_2 := HB0.out.cell 2 _ rfl; have hb0_3 := HB0.out.cell 3 _ rfl; have hb0_4 := HB0.out.cell 4 _ rfl; have hb0_5 := HB0.out.cell 5 _ rfl; clear X9 B9 l9; clear t0; have t1 := tR))
  exact bodyPost_ret (v := .tuple #[.agg Z9.toArray, .bool false]) (results_cv rfl _ _ w1.heap.size _ _ rowy_page rfl rfl HV6.out.1) rfl ⟨rfl, BB.out⟩
theorem done_un0 (g0 g1 g3 g4 g5 : Int) (S : Nat) (v : Value) (kd : Int) (w : World) (k n c l e t : Int) (D : Bool) (Q U : List Int) (hD : D = false) (hR : ∀ w0, Below w.heap.size w w0 → Calls Tryz.prog 81 #[.agg (ints .i64 [g0, g1, (S : Int), g3, g4, g5]), v] w0 fun x w' => ∃ po pc uo uc, x = .returned (.tuple #[.agg (pg9 k n c l e t (.slice po S pc) (.slice uo 32 uc) D).toArray, .int .i64 0]) ∧ Byt w' (.slice po S pc) Q ∧ Byt w' (.slice uo 32 uc) U ∧ Below w0.heap.size w0 w') :
    Calls Tryz.prog 80 #[.agg (ints .i64 [g0, g1, (S : Int), g3, g4, g5]), v, .int .i64 kd] w fun x w' => x = .returned (.tuple #[.agg Z9.toArray, .bool false]) ∧ Below w.heap.size w w' := by
  subst hD
  have SR : Hid (∀ w0, Below w.heap.size w w0 → Calls Tryz.prog 81 #[.agg (ints .i64 [g0, g1, (S : Int), g3, g4, g5]), v] w0 fun x w' => ∃ po pc uo uc, x = .returned (.tuple #[.agg (pg9 k n c l e t (.slice po S pc) (.slice uo 32 uc) false).toArray, .int .i64 0]) ∧ Byt w' (.slice po S pc) Q ∧ Byt w' (.slice uo 32 uc) U ∧ Below w0.heap.size w0 w') := hR
  clear hR
  have t0 := tR
  go_enter Tryz.func80, Tryz.ntmps80
  go_wp2_with (first
    | (have q6 := t6; (with_reducible refine at_store ?_); refine store_lawC _ Z9 w1.heap.size 0 rfl rfl HV6.out.2 rowy_page.2 (pg9_one _ _ _ _ _ _ _ _ _ _ _ _ _) ?_; intro w6 E9 R9 T9 B9; have K9 : ∀ k, k ≠ w1.heap.size → w6.heap[k]? = w5.heap[k]? := (by rw [E9.out]; exact fun k hk => heap_cells _ _ _ _ k hk); have HB0 : Hid (Vr w6 w.heap.size [.int .i64 g0, .int .i64 g1, .int .i64 (S : Int), .int .i64 g3, .int .i64 g4, .int .i64 g5]) := HB0.out.heap (K9 _ (Nat.ne_of_lt LT_HB0_HV6.out)); have HP : Hid (Byt w6 (.slice po S pc) Q) := byt_nob HP.out NB_HV6.out K9; have HY : Hid (Byt w6 (.slice uo 32 uc) U) := byt_nob HY.out NB_HV6.out K9; have NB_HV8 : Hid (NoB w6 w3.heap.size) := NB_HV8.out.heap (K9 _ (Nat.ne_of_gt LT_HV6_HV8.out)); have HV8 : Hid (Vr w6 w3.heap.size (pg9 k n c l e t (.slice po S pc) (.slice uo 32 uc) false)) := HV8.out.heap (K9 _ (Nat.ne_of_gt LT_HV6_HV8.out)); have NB_HV6 : Hid (NoB w6 w1.heap.size) := (by rw [E9.out]; exact NB_HV6.out.set HV6.out rfl (pg9_nob _ _ _ _ _ _ _ _ _ _ _ _ _)); have HV6 : Hid (Vr w6 w1.heap.size Z9) := ⟨R9, T9⟩; have BB : Hid (Below w.heap.size w w6) := BB.out.trans (B9.mono LE_HV6.out); clear hb0_0 hb0_1 hb0_2 hb0_3 hb0_4 hb0_5 hv8_0 hv8_1 hv8_2 hv8_3 hv8_4 hv8_5 hv8_6 hv8_7 hv8_8; have hb0_0 := HB0.out.cell 0 _ rfl; have hb0_1 := HB0.out.cell 1 _ rfl; have hb0_2 := HB0.out.cell 2 _ rfl; have hb0_3 := HB0.out.cell 3 _ rfl; have hb0_4 := HB0.out.cell 4 _ rfl; have hb0_5 := HB0.out.cell 5 _ rfl; have hv8_0 := HV8.out.cell 0 _ rfl; have hv8_1 := HV8.out.cell 1 _ rfl; have hv8_2 := HV8.out.cell 2 _ rfl; have hv8_3 := HV8.out.cell 3 _ rfl; have hv8_4 := HV8.out.cell 4 _ rfl; have hv8_5 := HV8.out.cell 5 _ rfl; have hv8_6 := HV8.out.cell 6 _ rfl; have hv8_7 := HV8.out.cell 7 _ rfl; have hv8_8 := HV8.out.cell 8 _ rfl; clear E9 R9 T9 B9 K9; clear t6; have t7 := tR)
    | (have q5 := t5; refine build_law _ rfl 152 _ rfl (.agg Z9.toArray) (by kernel_rfl) ?_; clear t5; have t6 := tR)
    | (have q4 := t4; (with_reducible refine at_store ?_); refine store_lawC _ (pg9 k n c l e t (.slice po S pc) (.slice uo 32 uc) false) w3.heap.size 0 rfl rfl HV8.out.2 rowy_page.2 (pg9_one _ _ _ _ _ _ _ _ _ _ _ _ _) ?_; intro w5 E9 R9 T9 B9; have K9 : ∀ k, k ≠ w3.heap.size → w5.heap[k]? = w4.heap[k]? := (by rw [E9.out]; exact fun k hk => heap_cells _ _ _ _ k hk); have HB0 : Hid (Vr w5 w.heap.size [.int .i64 g0, .int .i64 g1, .int .i64 (S : Int), .int .i64 g3, .int .i64 g4, .int .i64 g5]) := HB0.out.heap (K9 _ (Nat.ne_of_lt LT_HB0_HV8.out)); have NB_HV6 : Hid (NoB w5 w1.heap.size) := NB_HV6.out.heap (K9 _ (Nat.ne_of_lt LT_HV6_HV8.out)); have HV6 : Hid (Vr w5 w1.heap.size Z9) := HV6.out.heap (K9 _ (Nat.ne_of_lt LT_HV6_HV8.out)); have HP : Hid (Byt w5 (.slice po S pc) Q) := byt_nob HP.out NB_HV8.out K9; have HY : Hid (Byt w5 (.slice uo 32 uc) U) := byt_nob HY.out NB_HV8.out K9; have NB_HV8 : Hid (NoB w5 w3.heap.size) := (by rw [E9.out]; exact NB_HV8.out.set HV8.out rfl (pg9_nob _ _ _ _ _ _ _ _ _ _ _ _ _)); have HV8 : Hid (Vr w5 w3.heap.size (pg9 k n c l e t (.slice po S pc) (.slice uo 32 uc) false)) := ⟨R9, T9⟩; have BB : Hid (Below w.heap.size w w5) := BB.out.trans (B9.mono LE_HV8.out); clear hb0_0 hb0_1 hb0_2 hb0_3 hb0_4 hb0_5; have hb0_0 := HB0.out.cell 0 _ rfl; have hb0_1 := HB0.out.cell 1 _ rfl; have hb0_2 := HB0.out.cell 2 _ rfl; have hb0_3 := HB0.out.cell 3 _ rfl; have hb0_4 := HB0.out.cell 4 _ rfl; have hb0_5 := HB0.out.cell 5 _ rfl; have hv8_0 := HV8.out.cell 0 _ rfl; have hv8_1 := HV8.out.cell 1 _ rfl; have hv8_2 := HV8.out.cell 2 _ rfl; have hv8_3 := HV8.out.cell 3 _ rfl; have hv8_4 := HV8.out.cell 4 _ rfl; have hv8_5 := HV8.out.cell 5 _ rfl; have hv8_6 := HV8.out.cell 6 _ rfl; have hv8_7 := HV8.out.cell 7 _ rfl; have hv8_8 := HV8.out.cell 8 _ rfl; clear E9 R9 T9 B9 K9; clear t4; have t5 := tR)
    | (have q3 := t3; (with_reducible refine at_alloc ?_); refine new_lawN _ Z9 zero_page (pg9_nob _ _ _ _ _ _ _ _ _ _ _ _ _) ?_; intro w4 X9 N9 B9; have LT_HB0_HV8 : Hid (w.heap.size < w3.heap.size) := range_lt HB0.out.1 (Nat.succ_pos _); have LT_HV6_HV8 : Hid (w1.heap.size < w3.heap.size) := range_lt HV6.out.1 (Nat.succ_pos _); have LE_HV8 : Hid (w.heap.size ≤ w3.heap.size) := BB.out.size; have HB0 : Hid (Vr w4 w.heap.size [.int .i64 g0, .int .i64 g1, .int .i64 (S : Int), .int .i64 g3, .int .i64 g4, .int .i64 g5]) := HB0.out.below B9 (range_lt HB0.out.1 (Nat.succ_pos _)); have NB_HV6 : Hid (NoB w4 w1.heap.size) := NB_HV6.out.heap (B9.block _ (range_lt HV6.out.1 (Nat.succ_pos _))); have HV6 : Hid (Vr w4 w1.heap.size Z9) := HV6.out.below B9 (range_lt HV6.out.1 (Nat.succ_pos _)); have HP : Hid (Byt w4 (.slice po S pc) Q) := HP.out.below B9; have HY : Hid (Byt w4 (.slice uo 32 uc) U) := HY.out.below B9; have HV8 : Hid (Vr w4 w3.heap.size Z9) := X9; have NB_HV8 : Hid (NoB w4 w3.heap.size) := N9; have BB : Hid (Below w.heap.size w w4) := BB.out.trans (B9.mono BB.out.size); clear hb0_0 hb0_1 hb0_2 hb0_3 hb0_4 hb0_5; have hb0_0 := HB0.out.cell 0 _ rfl; have hb0_1 := HB0.out.cell 1 _ rfl; have hb0_2 := HB0.out.cell 2 _ rfl; have hb0_3 := HB0.out.cell 3 _ rfl; have hb0_4 := HB0.out.cell 4 _ rfl; have hb0_5 := HB0.out.cell 5 _ rfl; clear X9 N9 B9; clear t3; have t4 := tR)
    | (have q2 := t2; go_at_call 81; refine (SR.out w2 BB.out).mono ?_; rintro e9 w3 ⟨po, pc, uo, uc, rfl, Y8, Y9, B9⟩; have HB0 : Hid (Vr w3 w.heap.size [.int .i64 g0, .int .i64 g1, .int .i64 (S : Int), .int .i64 g3, .int .i64 g4, .int .i64 g5]) := HB0.out.below B9 (range_lt HB0.out.1 (Nat.succ_pos _)); have NB_HV6 : Hid (NoB w3 w1.heap.size) := NB_HV6.out.heap (B9.block _ (range_lt HV6.out.1 (Nat.succ_pos _))); have HV6 : Hid (Vr w3 w1.heap.size Z9) := HV6.out.below B9 (range_lt HV6.out.1 (Nat.succ_pos _)); have HP : Hid (Byt w3 (.slice po S pc) Q) := Y8; have HY : Hid (Byt w3 (.slice uo 32 uc) U) := Y9; have BB : Hid (Below w.heap.size w w3) := BB.out.trans (B9.mono BB.out.size); clear hb0_0 hb0_1 hb0_2 hb0_3 hb0_4 hb0_5; have hb0_0 := HB0.out.cell 0 _ rfl; have hb0_1 := HB0.out.cell 1 _ rfl; have hb0_2 := HB0.out.cell 2 _ rfl; have hb0_3 := HB0.out.cell 3 _ rfl; have hb0_4 := HB0.out.cell 4 _ rfl; have hb0_5 := HB0.out.cell 5 _ rfl; clear B9 Y8 Y9; clear t2; have t3 := tR)
    | (have q1 := t1; (with_reducible refine at_alloc ?_); refine new_lawN _ Z9 zero_page (pg9_nob _ _ _ _ _ _ _ _ _ _ _ _ _) ?_; intro w2 X9 N9 B9; have LT_HB0_HV6 : Hid (w.heap.size < w1.heap.size) := range_lt HB0.out.1 (Nat.succ_pos _); have LE_HV6 : Hid (w.heap.size ≤ w1.heap.size) := BB.out.size; have HB0 : Hid (Vr w2 w.heap.size [.int .i64 g0, .int .i64 g1, .int .i64 (S : Int), .int .i64 g3, .int .i64 g4, .int .i64 g5]) := HB0.out.below B9 (range_lt HB0.out.1 (Nat.succ_pos _)); have HV6 : Hid (Vr w2 w1.heap.size Z9) := X9; have NB_HV6 : Hid (NoB w2 w1.heap.size) := N9; have BB : Hid (Below w.heap.size w w2) := BB.out.trans (B9.mono BB.out.size); clear hb0_0 hb0_1 hb0_2 hb0_3 hb0_4 hb0_5; have hb0_0 := HB0.out.cell 0 _ rfl; have hb0_1 := HB0.out.cell 1 _ rfl; have hb0_2 := HB0.out.cell 2 _ rfl; have hb0_3 := HB0.out.cell 3 _ rfl; have hb0_4 := HB0.out.cell 4 _ rfl; have hb0_5 := HB0.out.cell 5 _ rfl; clear X9 N9 B9; clear t1; have t2 := tR)
    | (have q0 := t0; refine box_lawC _ [.int .i64 g0, .int .i64 g1, .int .i64 (S : Int), .int .i64 g3, .int .i64 g4, .int .i64 g5] rfl ?_; intro w1 X9 B9 l9; have HB0 : Hid (Vr w1 w.heap.size [.int .i64 g0, .int .i64 g1, .int .i64 (S : Int), .int .i64 g3, .int .i64 g4, .int .i64 g5]) := X9; have BB : Hid (Below w.heap.size w w1) := B9; have hb0_0 := HB0.out.cell 0 _ rfl; have hb0_1 := HB0.out.cell 1 _ rfl; have hb0_2 := HB0.out.cell 2 _ rfl; have hb0_3 := HB0.out.cell 3 _ rfl; have hb0_4 := HB0.out.cell 4 _ rfl; have hb0_5 := HB0.out.cell 5 _ rfl; clear X9 B9 l9; clear t0; have t1 := tR))
  exact bodyPost_ret (v := .tuple #[.agg Z9.toArray, .bool false]) (results_cv rfl _ _ w1.heap.size _ _ rowy_page rfl rfl HV6.out.1) rfl ⟨rfl, BB.out⟩
theorem done_un1 (g0 g1 g3 g4 g5 : Int) (S : Nat) (v : Value) (kd : Int) (w : World) (k n c l e t : Int) (D : Bool) (Q U : List Int) (hD : D = true) (hk : k ≠ kd) (hR : ∀ w0, Below w.heap.size w w0 → Calls Tryz.prog 81 #[.agg (ints .i64 [g0, g1, (S : Int), g3, g4, g5]), v] w0 fun x w' => ∃ po pc uo uc, x = .returned (.tuple #[.agg (pg9 k n c l e t (.slice po S pc) (.slice uo 32 uc) D).toArray, .int .i64 0]) ∧ Byt w' (.slice po S pc) Q ∧ Byt w' (.slice uo 32 uc) U ∧ Below w0.heap.size w0 w') :
    Calls Tryz.prog 80 #[.agg (ints .i64 [g0, g1, (S : Int), g3, g4, g5]), v, .int .i64 kd] w fun x w' => x = .returned (.tuple #[.agg Z9.toArray, .bool false]) ∧ Below w.heap.size w w' := by
  subst hD
  have n1 : (k != kd) = true := bne_iff_ne.2 hk
  clear hk
  have SR : Hid (∀ w0, Below w.heap.size w w0 → Calls Tryz.prog 81 #[.agg (ints .i64 [g0, g1, (S : Int), g3, g4, g5]), v] w0 fun x w' => ∃ po pc uo uc, x = .returned (.tuple #[.agg (pg9 k n c l e t (.slice po S pc) (.slice uo 32 uc) true).toArray, .int .i64 0]) ∧ Byt w' (.slice po S pc) Q ∧ Byt w' (.slice uo 32 uc) U ∧ Below w0.heap.size w0 w') := hR
  clear hR
  have t0 := tR
  go_enter Tryz.func80, Tryz.ntmps80
  go_wp2_with (first
    | (have q6 := t6; (with_reducible refine at_store ?_); refine store_lawC _ Z9 w1.heap.size 0 rfl rfl HV6.out.2 rowy_page.2 (pg9_one _ _ _ _ _ _ _ _ _ _ _ _ _) ?_; intro w6 E9 R9 T9 B9; have K9 : ∀ k, k ≠ w1.heap.size → w6.heap[k]? = w5.heap[k]? := (by rw [E9.out]; exact fun k hk => heap_cells _ _ _ _ k hk); have HB0 : Hid (Vr w6 w.heap.size [.int .i64 g0, .int .i64 g1, .int .i64 (S : Int), .int .i64 g3, .int .i64 g4, .int .i64 g5]) := HB0.out.heap (K9 _ (Nat.ne_of_lt LT_HB0_HV6.out)); have HP : Hid (Byt w6 (.slice po S pc) Q) := byt_nob HP.out NB_HV6.out K9; have HY : Hid (Byt w6 (.slice uo 32 uc) U) := byt_nob HY.out NB_HV6.out K9; have NB_HV8 : Hid (NoB w6 w3.heap.size) := NB_HV8.out.heap (K9 _ (Nat.ne_of_gt LT_HV6_HV8.out)); have HV8 : Hid (Vr w6 w3.heap.size (pg9 k n c l e t (.slice po S pc) (.slice uo 32 uc) true)) := HV8.out.heap (K9 _ (Nat.ne_of_gt LT_HV6_HV8.out)); have NB_HV6 : Hid (NoB w6 w1.heap.size) := (by rw [E9.out]; exact NB_HV6.out.set HV6.out rfl (pg9_nob _ _ _ _ _ _ _ _ _ _ _ _ _)); have HV6 : Hid (Vr w6 w1.heap.size Z9) := ⟨R9, T9⟩; have BB : Hid (Below w.heap.size w w6) := BB.out.trans (B9.mono LE_HV6.out); clear hb0_0 hb0_1 hb0_2 hb0_3 hb0_4 hb0_5 hv8_0 hv8_1 hv8_2 hv8_3 hv8_4 hv8_5 hv8_6 hv8_7 hv8_8; have hb0_0 := HB0.out.cell 0 _ rfl; have hb0_1 := HB0.out.cell 1 _ rfl; have hb0_2 := HB0.out.cell 2 _ rfl; have hb0_3 := HB0.out.cell 3 _ rfl; have hb0_4 := HB0.out.cell 4 _ rfl; have hb0_5 := HB0.out.cell 5 _ rfl; have hv8_0 := HV8.out.cell 0 _ rfl; have hv8_1 := HV8.out.cell 1 _ rfl; have hv8_2 := HV8.out.cell 2 _ rfl; have hv8_3 := HV8.out.cell 3 _ rfl; have hv8_4 := HV8.out.cell 4 _ rfl; have hv8_5 := HV8.out.cell 5 _ rfl; have hv8_6 := HV8.out.cell 6 _ rfl; have hv8_7 := HV8.out.cell 7 _ rfl; have hv8_8 := HV8.out.cell 8 _ rfl; clear E9 R9 T9 B9 K9; clear t6; have t7 := tR)
    | (have q5 := t5; refine build_law _ rfl 152 _ rfl (.agg Z9.toArray) (by kernel_rfl) ?_; clear t5; have t6 := tR)
    | (have q4 := t4; (with_reducible refine at_store ?_); refine store_lawC _ (pg9 k n c l e t (.slice po S pc) (.slice uo 32 uc) true) w3.heap.size 0 rfl rfl HV8.out.2 rowy_page.2 (pg9_one _ _ _ _ _ _ _ _ _ _ _ _ _) ?_; intro w5 E9 R9 T9 B9; have K9 : ∀ k, k ≠ w3.heap.size → w5.heap[k]? = w4.heap[k]? := (by rw [E9.out]; exact fun k hk => heap_cells _ _ _ _ k hk); have HB0 : Hid (Vr w5 w.heap.size [.int .i64 g0, .int .i64 g1, .int .i64 (S : Int), .int .i64 g3, .int .i64 g4, .int .i64 g5]) := HB0.out.heap (K9 _ (Nat.ne_of_lt LT_HB0_HV8.out)); have NB_HV6 : Hid (NoB w5 w1.heap.size) := NB_HV6.out.heap (K9 _ (Nat.ne_of_lt LT_HV6_HV8.out)); have HV6 : Hid (Vr w5 w1.heap.size Z9) := HV6.out.heap (K9 _ (Nat.ne_of_lt LT_HV6_HV8.out)); have HP : Hid (Byt w5 (.slice po S pc) Q) := byt_nob HP.out NB_HV8.out K9; have HY : Hid (Byt w5 (.slice uo 32 uc) U) := byt_nob HY.out NB_HV8.out K9; have NB_HV8 : Hid (NoB w5 w3.heap.size) := (by rw [E9.out]; exact NB_HV8.out.set HV8.out rfl (pg9_nob _ _ _ _ _ _ _ _ _ _ _ _ _)); have HV8 : Hid (Vr w5 w3.heap.size (pg9 k n c l e t (.slice po S pc) (.slice uo 32 uc) true)) := ⟨R9, T9⟩; have BB : Hid (Below w.heap.size w w5) := BB.out.trans (B9.mono LE_HV8.out); clear hb0_0 hb0_1 hb0_2 hb0_3 hb0_4 hb0_5; have hb0_0 := HB0.out.cell 0 _ rfl; have hb0_1 := HB0.out.cell 1 _ rfl; have hb0_2 := HB0.out.cell 2 _ rfl; have hb0_3 := HB0.out.cell 3 _ rfl; have hb0_4 := HB0.out.cell 4 _ rfl; have hb0_5 := HB0.out.cell 5 _ rfl; have hv8_0 := HV8.out.cell 0 _ rfl; have hv8_1 := HV8.out.cell 1 _ rfl; have hv8_2 := HV8.out.cell 2 _ rfl; have hv8_3 := HV8.out.cell 3 _ rfl; have hv8_4 := HV8.out.cell 4 _ rfl; have hv8_5 := HV8.out.cell 5 _ rfl; have hv8_6 := HV8.out.cell 6 _ rfl; have hv8_7 := HV8.out.cell 7 _ rfl; have hv8_8 := HV8.out.cell 8 _ rfl; clear E9 R9 T9 B9 K9; clear t4; have t5 := tR)
    | (have q3 := t3; (with_reducible refine at_alloc ?_); refine new_lawN _ Z9 zero_page (pg9_nob _ _ _ _ _ _ _ _ _ _ _ _ _) ?_; intro w4 X9 N9 B9; have LT_HB0_HV8 : Hid (w.heap.size < w3.heap.size) := range_lt HB0.out.1 (Nat.succ_pos _); have LT_HV6_HV8 : Hid (w1.heap.size < w3.heap.size) := range_lt HV6.out.1 (Nat.succ_pos _); have LE_HV8 : Hid (w.heap.size ≤ w3.heap.size) := BB.out.size; have HB0 : Hid (Vr w4 w.heap.size [.int .i64 g0, .int .i64 g1, .int .i64 (S : Int), .int .i64 g3, .int .i64 g4, .int .i64 g5]) := HB0.out.below B9 (range_lt HB0.out.1 (Nat.succ_pos _)); have NB_HV6 : Hid (NoB w4 w1.heap.size) := NB_HV6.out.heap (B9.block _ (range_lt HV6.out.1 (Nat.succ_pos _))); have HV6 : Hid (Vr w4 w1.heap.size Z9) := HV6.out.below B9 (range_lt HV6.out.1 (Nat.succ_pos _)); have HP : Hid (Byt w4 (.slice po S pc) Q) := HP.out.below B9; have HY : Hid (Byt w4 (.slice uo 32 uc) U) := HY.out.below B9; have HV8 : Hid (Vr w4 w3.heap.size Z9) := X9; have NB_HV8 : Hid (NoB w4 w3.heap.size) := N9; have BB : Hid (Below w.heap.size w w4) := BB.out.trans (B9.mono BB.out.size); clear hb0_0 hb0_1 hb0_2 hb0_3 hb0_4 hb0_5; have hb0_0 := HB0.out.cell 0 _ rfl; have hb0_1 := HB0.out.cell 1 _ rfl; have hb0_2 := HB0.out.cell 2 _ rfl; have hb0_3 := HB0.out.cell 3 _ rfl; have hb0_4 := HB0.out.cell 4 _ rfl; have hb0_5 := HB0.out.cell 5 _ rfl; clear X9 N9 B9; clear t3; have t4 := tR)
    | (have q2 := t2; go_at_call 81; refine (SR.out w2 BB.out).mono ?_; rintro e9 w3 ⟨po, pc, uo, uc, rfl, Y8, Y9, B9⟩; have HB0 : Hid (Vr w3 w.heap.size [.int .i64 g0, .int .i64 g1, .int .i64 (S : Int), .int .i64 g3, .int .i64 g4, .int .i64 g5]) := HB0.out.below B9 (range_lt HB0.out.1 (Nat.succ_pos _)); have NB_HV6 : Hid (NoB w3 w1.heap.size) := NB_HV6.out.heap (B9.block _ (range_lt HV6.out.1 (Nat.succ_pos _))); have HV6 : Hid (Vr w3 w1.heap.size Z9) := HV6.out.below B9 (range_lt HV6.out.1 (Nat.succ_pos _)); have HP : Hid (Byt w3 (.slice po S pc) Q) := Y8; have HY : Hid (Byt w3 (.slice uo 32 uc) U) := Y9; have BB : Hid (Below w.heap.size w w3) := BB.out.trans (B9.mono BB.out.size); clear hb0_0 hb0_1 hb0_2 hb0_3 hb0_4 hb0_5; have hb0_0 := HB0.out.cell 0 _ rfl; have hb0_1 := HB0.out.cell 1 _ rfl; have hb0_2 := HB0.out.cell 2 _ rfl; have hb0_3 := HB0.out.cell 3 _ rfl; have hb0_4 := HB0.out.cell 4 _ rfl; have hb0_5 := HB0.out.cell 5 _ rfl; clear B9 Y8 Y9; clear t2; have t3 := tR)
    | (have q1 := t1; (with_reducible refine at_alloc ?_); refine new_lawN _ Z9 zero_page (pg9_nob _ _ _ _ _ _ _ _ _ _ _ _ _) ?_; intro w2 X9 N9 B9; have LT_HB0_HV6 : Hid (w.heap.size < w1.heap.size) := range_lt HB0.out.1 (Nat.succ_pos _); have LE_HV6 : Hid (w.heap.size ≤ w1.heap.size) := BB.out.size; have HB0 : Hid (Vr w2 w.heap.size [.int .i64 g0, .int .i64 g1, .int .i64 (S : Int), .int .i64 g3, .int .i64 g4, .int .i64 g5]) := HB0.out.below B9 (range_lt HB0.out.1 (Nat.succ_pos _)); have HV6 : Hid (Vr w2 w1.heap.size Z9) := X9; have NB_HV6 : Hid (NoB w2 w1.heap.size) := N9; have BB : Hid (Below w.heap.size w w2) := BB.out.trans (B9.mono BB.out.size); clear hb0_0 hb0_1 hb0_2 hb0_3 hb0_4 hb0_5; have hb0_0 := HB0.out.cell 0 _ rfl; have hb0_1 := HB0.out.cell 1 _ rfl; have hb0_2 := HB0.out.cell 2 _ rfl; have hb0_3 := HB0.out.cell 3 _ rfl; have hb0_4 := HB0.out.cell 4 _ rfl; have hb0_5 := HB0.out.cell 5 _ rfl; clear X9 N9 B9; clear t1; have t2 := tR)
    | (have q0 := t0; refine box_lawC _ [.int .i64 g0, .int .i64 g1, .int .i64 (S : Int), .int .i64 g3, .int .i64 g4, .int .i64 g5] rfl ?_; intro w1 X9 B9 l9; have HB0 : Hid (Vr w1 w.heap.size [.int .i64 g0, .int .i64 g1, .int .i64 (S : Int), .int .i64 g3, .int .i64 g4, .int .i64 g5]) := X9; have BB : Hid (Below w.heap.size w w1) := B9; have hb0_0 := HB0.out.cell 0 _ rfl; have hb0_1 := HB0.out.cell 1 _ rfl; have hb0_2 := HB0.out.cell 2 _ rfl; have hb0_3 := HB0.out.cell 3 _ rfl; have hb0_4 := HB0.out.cell 4 _ rfl; have hb0_5 := HB0.out.cell 5 _ rfl; clear X9 B9 l9; clear t0; have t1 := tR))
  exact bodyPost_ret (v := .tuple #[.agg Z9.toArray, .bool false]) (results_cv rfl _ _ w1.heap.size _ _ rowy_page rfl rfl HV6.out.1) rfl ⟨rfl, BB.out⟩
theorem done_ok (g0 g1 g3 g4 g5 : Int) (S : Nat) (v : Value) (kd : Int) (w : World) (k n c l e t : Int) (D : Bool) (Q U : List Int) (hD : D = true) (hk : k = kd) (hR : ∀ w0, Below w.heap.size w w0 → Calls Tryz.prog 81 #[.agg (ints .i64 [g0, g1, (S : Int), g3, g4, g5]), v] w0 fun x w' => ∃ po pc uo uc, x = .returned (.tuple #[.agg (pg9 k n c l e t (.slice po S pc) (.slice uo 32 uc) D).toArray, .int .i64 0]) ∧ Byt w' (.slice po S pc) Q ∧ Byt w' (.slice uo 32 uc) U ∧ Below w0.heap.size w0 w') :
    Calls Tryz.prog 80 #[.agg (ints .i64 [g0, g1, (S : Int), g3, g4, g5]), v, .int .i64 kd] w fun x w' => ∃ po pc uo uc, x = .returned (.tuple #[.agg (pg9 k n c l e t (.slice po S pc) (.slice uo 32 uc) true).toArray, .bool true]) ∧ Byt w' (.slice po S pc) Q ∧ Byt w' (.slice uo 32 uc) U ∧ Below w.heap.size w w' := by
  subst hD
  subst hk
  have SR : Hid (∀ w0, Below w.heap.size w w0 → Calls Tryz.prog 81 #[.agg (ints .i64 [g0, g1, (S : Int), g3, g4, g5]), v] w0 fun x w' => ∃ po pc uo uc, x = .returned (.tuple #[.agg (pg9 k n c l e t (.slice po S pc) (.slice uo 32 uc) true).toArray, .int .i64 0]) ∧ Byt w' (.slice po S pc) Q ∧ Byt w' (.slice uo 32 uc) U ∧ Below w0.heap.size w0 w') := hR
  clear hR
  have t0 := tR
  go_enter Tryz.func80, Tryz.ntmps80
  go_wp2_with (first
    | (have q5 := t5; (with_reducible refine at_store ?_); refine store_lawC _ (pg9 k n c l e t (.slice po S pc) (.slice uo 32 uc) true) w1.heap.size 0 rfl rfl HV6.out.2 rowy_page.2 (pg9_one _ _ _ _ _ _ _ _ _ _ _ _ _) ?_; intro w6 E9 R9 T9 B9; have K9 : ∀ k, k ≠ w1.heap.size → w6.heap[k]? = w5.heap[k]? := (by rw [E9.out]; exact fun k hk => heap_cells _ _ _ _ k hk); have HB0 : Hid (Vr w6 w.heap.size [.int .i64 g0, .int .i64 g1, .int .i64 (S : Int), .int .i64 g3, .int .i64 g4, .int .i64 g5]) := HB0.out.heap (K9 _ (Nat.ne_of_lt LT_HB0_HV6.out)); have HP : Hid (Byt w6 (.slice po S pc) Q) := byt_nob HP.out NB_HV6.out K9; have HY : Hid (Byt w6 (.slice uo 32 uc) U) := byt_nob HY.out NB_HV6.out K9; have NB_HV8 : Hid (NoB w6 w3.heap.size) := NB_HV8.out.heap (K9 _ (Nat.ne_of_gt LT_HV6_HV8.out)); have HV8 : Hid (Vr w6 w3.heap.size (pg9 k n c l e t (.slice po S pc) (.slice uo 32 uc) true)) := HV8.out.heap (K9 _ (Nat.ne_of_gt LT_HV6_HV8.out)); have NB_HV6 : Hid (NoB w6 w1.heap.size) := (by rw [E9.out]; exact NB_HV6.out.set HV6.out rfl (pg9_nob _ _ _ _ _ _ _ _ _ _ _ _ _)); have HV6 : Hid (Vr w6 w1.heap.size (pg9 k n c l e t (.slice po S pc) (.slice uo 32 uc) true)) := ⟨R9, T9⟩; have BB : Hid (Below w.heap.size w w6) := BB.out.trans (B9.mono LE_HV6.out); clear hb0_0 hb0_1 hb0_2 hb0_3 hb0_4 hb0_5 hv8_0 hv8_1 hv8_2 hv8_3 hv8_4 hv8_5 hv8_6 hv8_7 hv8_8; have hb0_0 := HB0.out.cell 0 _ rfl; have hb0_1 := HB0.out.cell 1 _ rfl; have hb0_2 := HB0.out.cell 2 _ rfl; have hb0_3 := HB0.out.cell 3 _ rfl; have hb0_4 := HB0.out.cell 4 _ rfl; have hb0_5 := HB0.out.cell 5 _ rfl; have hv8_0 := HV8.out.cell 0 _ rfl; have hv8_1 := HV8.out.cell 1 _ rfl; have hv8_2 := HV8.out.cell 2 _ rfl; have hv8_3 := HV8.out.cell 3 _ rfl; have hv8_4 := HV8.out.cell 4 _ rfl; have hv8_5 := HV8.out.cell 5 _ rfl; have hv8_6 := HV8.out.cell 6 _ rfl; have hv8_7 := HV8.out.cell 7 _ rfl; have hv8_8 := HV8.out.cell 8 _ rfl; clear E9 R9 T9 B9 K9; clear t5; have t6 := tR)
    | (have q4 := t4; (with_reducible refine at_store ?_); refine store_lawC _ (pg9 k n c l e t (.slice po S pc) (.slice uo 32 uc) true) w3.heap.size 0 rfl rfl HV8.out.2 rowy_page.2 (pg9_one _ _ _ _ _ _ _ _ _ _ _ _ _) ?_; intro w5 E9 R9 T9 B9; have K9 : ∀ k, k ≠ w3.heap.size → w5.heap[k]? = w4.heap[k]? := (by rw [E9.out]; exact fun k hk => heap_cells _ _ _ _ k hk); have HB0 : Hid (Vr w5 w.heap.size [.int .i64 g0, .int .i64 g1, .int .i64 (S : Int), .int .i64 g3, .int .i64 g4, .int .i64 g5]) := HB0.out.heap (K9 _ (Nat.ne_of_lt LT_HB0_HV8.out)); have NB_HV6 : Hid (NoB w5 w1.heap.size) := NB_HV6.out.heap (K9 _ (Nat.ne_of_lt LT_HV6_HV8.out)); have HV6 : Hid (Vr w5 w1.heap.size Z9) := HV6.out.heap (K9 _ (Nat.ne_of_lt LT_HV6_HV8.out)); have HP : Hid (Byt w5 (.slice po S pc) Q) := byt_nob HP.out NB_HV8.out K9; have HY : Hid (Byt w5 (.slice uo 32 uc) U) := byt_nob HY.out NB_HV8.out K9; have NB_HV8 : Hid (NoB w5 w3.heap.size) := (by rw [E9.out]; exact NB_HV8.out.set HV8.out rfl (pg9_nob _ _ _ _ _ _ _ _ _ _ _ _ _)); have HV8 : Hid (Vr w5 w3.heap.size (pg9 k n c l e t (.slice po S pc) (.slice uo 32 uc) true)) := ⟨R9, T9⟩; have BB : Hid (Below w.heap.size w w5) := BB.out.trans (B9.mono LE_HV8.out); clear hb0_0 hb0_1 hb0_2 hb0_3 hb0_4 hb0_5; have hb0_0 := HB0.out.cell 0 _ rfl; have hb0_1 := HB0.out.cell 1 _ rfl; have hb0_2 := HB0.out.cell 2 _ rfl; have hb0_3 := HB0.out.cell 3 _ rfl; have hb0_4 := HB0.out.cell 4 _ rfl; have hb0_5 := HB0.out.cell 5 _ rfl; have hv8_0 := HV8.out.cell 0 _ rfl; have hv8_1 := HV8.out.cell 1 _ rfl; have hv8_2 := HV8.out.cell 2 _ rfl; have hv8_3 := HV8.out.cell 3 _ rfl; have hv8_4 := HV8.out.cell 4 _ rfl; have hv8_5 := HV8.out.cell 5 _ rfl; have hv8_6 := HV8.out.cell 6 _ rfl; have hv8_7 := HV8.out.cell 7 _ rfl; have hv8_8 := HV8.out.cell 8 _ rfl; clear E9 R9 T9 B9 K9; clear t4; have t5 := tR)
    | (have q3 := t3; (with_reducible refine at_alloc ?_); refine new_lawN _ Z9 zero_page (pg9_nob _ _ _ _ _ _ _ _ _ _ _ _ _) ?_; intro w4 X9 N9 B9; have LT_HB0_HV8 : Hid (w.heap.size < w3.heap.size) := range_lt HB0.out.1 (Nat.succ_pos _); have LT_HV6_HV8 : Hid (w1.heap.size < w3.heap.size) := range_lt HV6.out.1 (Nat.succ_pos _); have LE_HV8 : Hid (w.heap.size ≤ w3.heap.size) := BB.out.size; have HB0 : Hid (Vr w4 w.heap.size [.int .i64 g0, .int .i64 g1, .int .i64 (S : Int), .int .i64 g3, .int .i64 g4, .int .i64 g5]) := HB0.out.below B9 (range_lt HB0.out.1 (Nat.succ_pos _)); have NB_HV6 : Hid (NoB w4 w1.heap.size) := NB_HV6.out.heap (B9.block _ (range_lt HV6.out.1 (Nat.succ_pos _))); have HV6 : Hid (Vr w4 w1.heap.size Z9) := HV6.out.below B9 (range_lt HV6.out.1 (Nat.succ_pos _)); have HP : Hid (Byt w4 (.slice po S pc) Q) := HP.out.below B9; have HY : Hid (Byt w4 (.slice uo 32 uc) U) := HY.out.below B9; have HV8 : Hid (Vr w4 w3.heap.size Z9) := X9; have NB_HV8 : Hid (NoB w4 w3.heap.size) := N9; have BB : Hid (Below w.heap.size w w4) := BB.out.trans (B9.mono BB.out.size); clear hb0_0 hb0_1 hb0_2 hb0_3 hb0_4 hb0_5; have hb0_0 := HB0.out.cell 0 _ rfl; have hb0_1 := HB0.out.cell 1 _ rfl; have hb0_2 := HB0.out.cell 2 _ rfl; have hb0_3 := HB0.out.cell 3 _ rfl; have hb0_4 := HB0.out.cell 4 _ rfl; have hb0_5 := HB0.out.cell 5 _ rfl; clear X9 N9 B9; clear t3; have t4 := tR)
    | (have q2 := t2; go_at_call 81; refine (SR.out w2 BB.out).mono ?_; rintro e9 w3 ⟨po, pc, uo, uc, rfl, Y8, Y9, B9⟩; have HB0 : Hid (Vr w3 w.heap.size [.int .i64 g0, .int .i64 g1, .int .i64 (S : Int), .int .i64 g3, .int .i64 g4, .int .i64 g5]) := HB0.out.below B9 (range_lt HB0.out.1 (Nat.succ_pos _)); have NB_HV6 : Hid (NoB w3 w1.heap.size) := NB_HV6.out.heap (B9.block _ (range_lt HV6.out.1 (Nat.succ_pos _))); have HV6 : Hid (Vr w3 w1.heap.size Z9) := HV6.out.below B9 (range_lt HV6.out.1 (Nat.succ_pos _)); have HP : Hid (Byt w3 (.slice po S pc) Q) := Y8; have HY : Hid (Byt w3 (.slice uo 32 uc) U) := Y9; have BB : Hid (Below w.heap.size w w3) := BB.out.trans (B9.mono BB.out.size); clear hb0_0 hb0_1 hb0_2 hb0_3 hb0_4 hb0_5; have hb0_0 := HB0.out.cell 0 _ rfl; have hb0_1 := HB0.out.cell 1 _ rfl; have hb0_2 := HB0.out.cell 2 _ rfl; have hb0_3 := HB0.out.cell 3 _ rfl; have hb0_4 := HB0.out.cell 4 _ rfl; have hb0_5 := HB0.out.cell 5 _ rfl; clear B9 Y8 Y9; clear t2; have t3 := tR)
    | (have q1 := t1; (with_reducible refine at_alloc ?_); refine new_lawN _ Z9 zero_page (pg9_nob _ _ _ _ _ _ _ _ _ _ _ _ _) ?_; intro w2 X9 N9 B9; have LT_HB0_HV6 : Hid (w.heap.size < w1.heap.size) := range_lt HB0.out.1 (Nat.succ_pos _); have LE_HV6 : Hid (w.heap.size ≤ w1.heap.size) := BB.out.size; have HB0 : Hid (Vr w2 w.heap.size [.int .i64 g0, .int .i64 g1, .int .i64 (S : Int), .int .i64 g3, .int .i64 g4, .int .i64 g5]) := HB0.out.below B9 (range_lt HB0.out.1 (Nat.succ_pos _)); have HV6 : Hid (Vr w2 w1.heap.size Z9) := X9; have NB_HV6 : Hid (NoB w2 w1.heap.size) := N9; have BB : Hid (Below w.heap.size w w2) := BB.out.trans (B9.mono BB.out.size); clear hb0_0 hb0_1 hb0_2 hb0_3 hb0_4 hb0_5; have hb0_0 := HB0.out.cell 0 _ rfl; have hb0_1 := HB0.out.cell 1 _ rfl; have hb0_2 := HB0.out.cell 2 _ rfl; have hb0_3 := HB0.out.cell 3 _ rfl; have hb0_4 := HB0.out.cell 4 _ rfl; have hb0_5 := HB0.out.cell 5 _ rfl; clear X9 N9 B9; clear t1; have t2 := tR)
    | (have q0 := t0; refine box_lawC _ [.int .i64 g0, .int .i64 g1, .int .i64 (S : Int), .int .i64 g3, .int .i64 g4, .int .i64 g5] rfl ?_; intro w1 X9 B9 l9; have HB0 : Hid (Vr w1 w.heap.size [.int .i64 g0, .int .i64 g1, .int .i64 (S : Int), .int .i64 g3, .int .i64 g4, .int .i64 g5]) := X9; have BB : Hid (Below w.heap.size w w1) := B9; have hb0_0 := HB0.out.cell 0 _ rfl; have hb0_1 := HB0.out.cell 1 _ rfl; have hb0_2 := HB0.out.cell 2 _ rfl; have hb0_3 := HB0.out.cell 3 _ rfl; have hb0_4 := HB0.out.cell 4 _ rfl; have hb0_5 := HB0.out.cell 5 _ rfl; clear X9 B9 l9; clear t0; have t1 := tR))
  exact bodyPost_ret (v := .tuple #[.agg (pg9 k n c l e t (.slice po S pc) (.slice uo 32 uc) true).toArray, .bool true]) (results_cv rfl _ _ w1.heap.size _ _ rowy_page rfl rfl HV6.out.1) rfl ⟨_, _, _, _, rfl, HP.out, HY.out, BB.out⟩
end Go.Proofs.YtakibiigcdgohaaGreatDoor.pa
namespace Go.Proofs.YtakibiigcdgohaaGreatDoor.ck
open Go.RowKit Go.Proofs.YtakibiigcdgohaaGreatDoor.fa Go.Proofs.YtakibiigcdgohaaGreatDoor.he Go.Proofs.YtakibiigcdgohaaGreatDoor.pa
set_option maxRecDepth 20000
theorem und_rows : Tryz.prog.underlying 68 = some (.slice (Tryz.prog.elem 68)) := by kernel_rfl
theorem elem_rows : Tryz.prog.elem 68 = 35 := by kernel_rfl
theorem run_size_rows (w : World) : (sizeOf 35).run Tryz.prog w = .ok 1 w := by kernel_rfl
theorem guard_head : Tryz.prog.eqGuardType Tryz.prog.depth 119 = false := by kernel_rfl
theorem neq_head (k n c l e t k' n' c' l' e' t' : Int) (w : World) : (binOp .neq 119 (.agg #[.int .i64 k, .int .i64 n, .int .i64 c, .int .u32 l, .int .u64 e, .int .u64 t]) (.agg #[.int .i64 k', .int .i64 n', .int .i64 c', .int .u32 l', .int .u64 e', .int .u64 t'])).run Tryz.prog w = .ok (.bool (!decide (k = k' ∧ n = n' ∧ c = c' ∧ l = l' ∧ e = e' ∧ t = t'))) w := by
  go_simp
  repeat' split
  all_goals simp [*]
section
variable {ev : Operand → Value} {o : Oper}
theorem exec_neqH (x y : Operand) (hop : o.op = Op.binOp .neq 119 x y 119) (k n c l e t k' n' c' l' e' t' : Int) (hx : ev x = .agg (hv k n c l e t).toArray) (hy : ev y = .agg (hv k' n' c' l' e' t').toArray) (b : Bool) (hb : (!decide (k = k' ∧ n = n' ∧ c = c' ∧ l = l' ∧ e = e' ∧ t = t')) = b) (w : World) : (execOp ev o).run Tryz.prog w = .ok (.value (.bool b)) w := by
  subst hb
  have z := neq_head k n c l e t k' n' c' l' e' t' w
  have hx' : ev x = .agg #[.int .i64 k, .int .i64 n, .int .i64 c, .int .u32 l, .int .u64 e, .int .u64 t] := hx
  have hy' : ev y = .agg #[.int .i64 k', .int .i64 n', .int .i64 c', .int .u32 l', .int .u64 e', .int .u64 t'] := hy
  unfold execOp
  simp only [hop, hx', hy', Sem.run_bind, Sem.run_pure, run_eqGuard_agg w .neq 119 x y _ _ guard_head, Result.andThen_ok, z]
theorem exec_idxR (x y : Operand) (hop : o.op = Op.indexAddr 68 x y) (b off n cap i : Nat) (hx : ev x = .slice (some ⟨b, off, none⟩) n cap) (hy : ev y = .int .i64 (i : Int)) (hi : i < n) (w : World) : (execOp ev o).run Tryz.prog w = .ok (.value (.pointer (some ⟨b, off + i, none⟩))) w := by
  have hr : (Instr.indexAt 68 (.slice (some ⟨b, off, none⟩) n cap) (.int .i64 (i : Int))).run Tryz.prog w = .ok (.pointer (some ⟨b, off + i, none⟩)) w := by
    rw [run_indexAt_slice _ _ _ _ _ _ _ und_rows, if_pos (by omega), elem_rows, run_size_rows]
    simp [Result.andThen, Addr.add]
  unfold execOp
  simp only [hop, hx, hy, Sem.run_bind, Sem.run_pure, Result.andThen_ok, hr]
theorem exec_hm (s x y : Operand) (hop : o.op = Op.slice 35 s none (some x) (some y)) (v : Value) (xs : List Int) (w0 : World) (hb : Byt w0 v xs) (h : Nat) (hs : ev s = v) (hx : ev x = .int .i64 (h : Int)) (hy : ev y = .int .i64 (h : Int)) (hh : h ≤ xs.length) (w : World) : (execOp ev o).run Tryz.prog w = .ok (.value (slm v 0 h)) w := by
  obtain ⟨ao, cap, rfl, h1, -⟩ := hb
  have hrun := run_slice_hm (P := Tryz.prog) w 35 ao xs.length cap und_bytes .i64 .i64 (h : Int) (h : Int) (by omega) (by omega) (by omega)
  rw [elem_bytes, run_size_u8] at hrun
  simp [execOp, hop, hs, hx, hy, run_sliceAt_slice w 35 _ _ _ _ und_bytes, hrun, Result.andThen, slm]
end
theorem run_rows_to (w : World) (b off n cap h : Nat) (hh : h ≤ cap) : (Instr.slice 68 (.slice (some ⟨b, off, none⟩) n cap) none (some (.int .i64 (h : Int))) none).run Tryz.prog w = .ok (.slice (some ⟨b, off, none⟩) h cap) w := by
  have hrun := run_slice_h (P := Tryz.prog) w 68 (some ⟨b, off, none⟩) n cap und_rows .i64 (h : Int) (by omega) (by omega)
  rw [elem_rows, run_size_rows] at hrun
  rw [hrun]
  simp [sliced, Result.andThen, Addr.add]
section
variable {ops : Array Oper} {rest : List Oper} {o : Oper} {a : Act} {Q : Exit → Act → World → Prop} {K : Act → World → Prop} {E : Prop}
theorem cut_toR (w : World) (hg : o.guard = none) (s x : Operand) (hop : o.op = Op.slice 68 s none (some x) none) (b off n cap h : Nat) (hs : a.eval s = .slice (some ⟨b, off, none⟩) n cap) (hx : a.eval x = .int .i64 (h : Int)) (hh : h ≤ cap)
    (hK : wpList Tryz.prog ops Q rest (a.put o.dst (.slice (some ⟨b, off, none⟩) h cap)) w) : wpList Tryz.prog ops Q (o :: rest) a w := by
  refine wpList_plain hg fun K hK' => ?_
  have hrun := run_rows_to w b off n cap h hh
  unfold Oper.wp
  simp [execOp, hop, hs, hx, run_sliceAt_slice w 68 _ _ _ _ und_rows, hrun, Result.andThen]
  exact hK' _ _ hK
end
end Go.Proofs.YtakibiigcdgohaaGreatDoor.ck
