/- Parts of the proof: what KeyboxGone reaches. No claim of its own. -/
import Derived.WalkKit
import Derived.Deep.QuietTactic
import Derived.Deep.RegionHeld3
import Derived.Deep.WholeRow
import Derived.Deep.MidRow
import Derived.Laws.StructEq
import Derived.Lib.AppendZeros
import Derived.Lib.SliceRun
import Derived.Lib.MakeNoZero
import Derived.Deep.DeepCutAuto
import Derived.Deep.Slices
import Derived.ArgAppend
import Derived.WalkSmall
import Derived.ProofKit
import Derived.OpenShut
import Derived.BigQuiet
import Derived.Laws.AppendOwnNone
import Derived.Deep.LoopGhost
import Derived.Deep.DeepHandedRow
import Derived.Lib.LaidTab
import Derived.Deep.Matrix
import Derived.Test.YtakibiigcdgohaaGreatDoorD00
import Derived.Test.YtakibiigcdgohaaGreatDoorD01
import Derived.Test.YtakibiigcdgohaaGreatDoorD02
import Derived.Test.YtakibiigcdgohaaGreatDoorD03
import Derived.Test.YtakibiigcdgohaaGreatDoorD04
import Derived.Test.YtakibiigcdgohaaGreatDoorD05
import Derived.Test.YtakibiigcdgohaaGreatDoorD06
import Derived.Test.YtakibiigcdgohaaGreatDoorD07
import Derived.Test.YtakibiigcdgohaaGreatDoorD08
import Derived.Test.YtakibiigcdgohaaGreatDoorD09
import Derived.Test.YtakibiigcdgohaaGreatDoorD10
import Derived.Test.YtakibiigcdgohaaGreatDoorD11
import Derived.Test.YtakibiigcdgohaaGreatDoorD12
import Derived.Test.YtakibiigcdgohaaGreatDoorD13
import Derived.Test.YtakibiigcdgohaaGreatDoorD14
import Derived.Test.YtakibiigcdgohaaGreatDoorD15
import Derived.Test.YtakibiigcdgohaaGreatDoorD16
import Derived.Test.YtakibiigcdgohaaGreatDoorD17
import Derived.Test.YtakibiigcdgohaaGreatDoorD18
import Derived.Test.YtakibiigcdgohaaGreatDoorD19
import Derived.Test.YtakibiigcdgohaaGreatDoorD20
import Derived.Test.YtakibiigcdgohaaGreatDoorD21
set_option maxHeartbeats 8000000
namespace Go.Proofs.YtakibiigcdgohaaGreatDoor.vb
open Go.RowKit Go.Proofs.YtakibiigcdgohaaGreatDoor.fa Go.Proofs.YtakibiigcdgohaaGreatDoor.he Go.Proofs.YtakibiigcdgohaaGreatDoor.pa Go.Proofs.YtakibiigcdgohaaGreatDoor.ck
set_option maxRecDepth 20000
section
variable {ops : Array Oper} {rest : List Oper} {a : Act} {Q : Exit → Act → World → Prop}
theorem box_lawB {d : Option Tmp} {x : Operand} {t ty : TypeId} {pos : String} {af : Array Edge} (w : World) (cs : List Value) (hx : a.eval x = .agg cs.toArray) (hb : ∀ v ∈ cs, ∀ y, v ≠ .int .u8 y)
    (hK : ∀ w', Vr w' w.heap.size cs → NoB w' w.heap.size → Below w.heap.size w w' → w.heap.size < w'.heap.size → wpList Tryz.prog ops Q rest (a.put d (.pointer (some ⟨w.heap.size, 0, none⟩))) w') :
    wpList Tryz.prog ops Q (⟨d, Op.box t x, ty, pos, af, none⟩ :: rest) a w := by
  refine wpList_plain rfl fun K hK' => ?_
  unfold Oper.wp
  simp [execOp, hx, Instr.box, newVar, newRow, Value.cells, Result.andThen]
  refine hK' _ _ (hK _ (Vr.new w t cs) (fun j y e => ?_) ((Below.refl _ _).alloc (Nat.le_refl _) _) (by simp))
  rw [cell_of_row _ w.heap.size j cs.toArray t (0, 0) (heap_alloc_last w _)] at e
  exact hb _ (List.mem_of_getElem? (show cs[j]? = _ by simpa using e)) y rfl
theorem cell_law {H : Ch} {M : Nat → Bool} {w : World} {B : Nat} {b : Bx} {l : List na.Opn} {d : Option Tmp} {x y : Operand} {t ty : TypeId} {pos : String} {af : Array Edge} (h : Bs H M w B b l) (j : Nat) (v : Value) (b' : Bx) (hx : a.eval x = .pointer (some ⟨B, j, none⟩)) (hy : a.eval y = v) (hj : j < 15) (h1 : v.oneCell' = true) (hc : v.cells = #[v]) (hv : ∀ y, v ≠ .int .u8 y) (hi : (Tryz.prog.info? t).map (·.size) = some 1) (he : (bxc H.c b).set j v = bxc H.c b') (hs : b'.s = b.s) (hf : b'.hf = b.hf)
    (hK : ∀ w', Bs H M w' B b' l → Fr M w B M w' → wpList Tryz.prog ops Q rest (a.put d undef) w') :
    wpList Tryz.prog ops Q (⟨d, Op.store t x y, ty, pos, af, none⟩ :: rest) a w :=
  set_lawK w (bxc H.c b) B j v hx hy h.2.2.1 h.2.2.2.1 hj h1 hc hv hi fun w' h1 h2 h3 h4 => by
    rw [he] at h1
    obtain ⟨q1, q2⟩ := h.put h1 h2 h4 h3 hs hf
    exact hK w' q1 q2
end
theorem tr1_cur {N P T : Nat} {pl : na.Pln} {b : Bx} {k : Nat} {l : List (List Int)} : (tr1 N P T pl b k l).1.cur = b.cur := by
  have t2 : ∀ b : Bx, (tr2 N P T pl b k l).1.cur = b.cur := fun b => by
    unfold tr2
    simp only []
    split
    · rfl
    · split
      · exact dst_cur.1
      · exact dst_cur.1
  unfold tr1
  split
  · exact t2 b
  · split
    · exact (t2 _).trans dst_cur.1
    · exact dst_cur.1
def fin (P T : Nat) (pl : na.Pln) (gen : Int) (R : Bx × Int × Int) : Bx × Int := if R.2.2 = 0 then oth P T pl 4 { R.1 with cur := R.2.1, gen := gen } 0 else (R.1, R.2.2)
theorem cmi_wrl {N P T : Nat} {pl : na.Pln} {l : List (List Int)} {gen : Int} : ∀ (m : Nat) (b : Bx) (i : Nat), cmi N P T pl l gen m b i = fin P T pl gen (wrl N P T pl l (((List.range m).map fun t => (i + t) % 4).filter fun k => decide ((k : Int) ≠ b.cur)) b)
  | 0, b, i => rfl
  | m + 1, b, i => by
    have er : (List.range (m + 1)).map (fun t => (i + t) % 4) = i % 4 :: (List.range m).map fun t => (i + 1 + t) % 4 := by
      rw [List.range_succ_eq_map, List.map_cons, List.map_map]
      congr 1
      refine List.map_congr_left fun t _ => ?_
      show (i + (t + 1)) % 4 = _
      rw [show i + (t + 1) = i + 1 + t by omega]
    rw [er]
    unfold cmi
    by_cases hc : ((i % 4 : Nat) : Int) = b.cur
    · rw [if_pos (.inl hc), List.filter_cons_of_neg (by simpa using hc)]
      exact cmi_wrl m b (i + 1)
    · rw [List.filter_cons_of_pos (by simpa using hc)]
      unfold wrl
      by_cases hb : b.bad (i % 4) = true
      · rw [if_pos (.inr hb), if_pos hb]
        exact cmi_wrl m b (i + 1)
      · rw [if_neg (fun z => z.elim hc hb), if_neg hb]
        by_cases h4 : (tr1 N P T pl b (i % 4) l).2 = 4
        · rw [if_pos h4, if_pos h4]
          unfold fin
          rw [if_neg (show ¬ (4 : Int) = 0 by decide)]
          exact Prod.ext rfl h4
        · rw [if_neg h4, if_neg h4]
          by_cases h0 : (tr1 N P T pl b (i % 4) l).2 = 0
          · rw [if_pos h0, if_pos h0]
            rfl
          · rw [if_neg h0, if_neg h0, cmi_wrl m _ (i + 1), tr1_cur]
theorem cmt_wrl {N P T : Nat} {pl : na.Pln} {l : List (List Int)} {gen : Int} {b : Bx} {m : Nat} (hc : b.cur = (m : Int) - 1) (ho : na.off b.s = false) : cmt N P T pl b l gen = fin P T pl gen (wrl N P T pl l (bhl m 4) b) := by
  unfold cmt
  rw [if_neg (by rw [ho]; exact Bool.false_ne_true), cmi_wrl, hc, show ((m : Int) - 1 + 1).toNat = m by omega]
  rfl
theorem wrl_cur {N P T : Nat} {pl : na.Pln} {l : List (List Int)} : ∀ (L : List Nat) (b : Bx), ((wrl N P T pl l L b).2.2 = 0 → ∃ k, k ∈ L ∧ (wrl N P T pl l L b).2.1 = ((k : Nat) : Int)) ∧ (wrl N P T pl l L b).1.cur = b.cur ∧ na.ops (wrl N P T pl l L b).1.s ≤ na.ops b.s + L.length * (l.length + 5)
  | [], b => ⟨fun h => absurd (show (15 : Int) = 0 from h) (by decide), rfl, Nat.le_add_right _ _⟩
  | k :: L, b => by
    have ht := tr1_ops (N := N) (P := P) (T := T) (pl := pl) (b := b) (k := k) (l := l)
    have hl : (k :: L).length * (l.length + 5) = L.length * (l.length + 5) + (l.length + 5) := by rw [List.length_cons, Nat.succ_mul]
    unfold wrl
    split
    · obtain ⟨h1, h2, h3⟩ := wrl_cur L b
      exact ⟨fun z => by obtain ⟨q, q1, q2⟩ := h1 z; exact ⟨q, List.mem_cons_of_mem _ q1, q2⟩, h2, by omega⟩
    · split
      · exact ⟨fun h => absurd (show (4 : Int) = 0 from h) (by decide), tr1_cur, by show na.ops (tr1 N P T pl b k l).1.s ≤ _; omega⟩
      · split
        · exact ⟨fun _ => ⟨k, List.mem_cons_self, rfl⟩, tr1_cur, by show na.ops (tr1 N P T pl b k l).1.s ≤ _; omega⟩
        · obtain ⟨h1, h2, h3⟩ := wrl_cur L (tr1 N P T pl b k l).1
          exact ⟨fun z => by obtain ⟨q, q1, q2⟩ := h1 z; exact ⟨q, List.mem_cons_of_mem _ q1, q2⟩, h2.trans tr1_cur, by omega⟩
theorem oth_cur {P T : Nat} {pl : na.Pln} : ∀ (m : Nat) (b : Bx) (k : Nat), (oth P T pl m b k).1.cur = b.cur
  | 0, _, _ => rfl
  | m + 1, b, k => by
    unfold oth
    split
    · exact oth_cur m b (k + 1)
    · split
      · exact dst_cur.1
      · exact (oth_cur m _ (k + 1)).trans dst_cur.1
def Plc (x : Int) : Prop := ∃ m : Nat, m ≤ 4 ∧ x = (m : Int) - 1
theorem cmt_plc {N P T : Nat} {pl : na.Pln} {l : List (List Int)} {gen : Int} {b : Bx} (hp : Plc b.cur) : Plc (cmt N P T pl b l gen).1.cur := by
  obtain ⟨m, hm, hc⟩ := hp
  cases ho : na.off b.s with
  | true =>
    unfold cmt
    rw [if_pos ho]
    exact ⟨m, hm, hc⟩
  | false =>
    rw [cmt_wrl hc ho]
    obtain ⟨h1, h2, -⟩ := wrl_cur (N := N) (P := P) (T := T) (pl := pl) (l := l) (bhl m 4) b
    unfold fin
    split
    · rename_i h0
      obtain ⟨k, hk, e⟩ := h1 h0
      refine ⟨k + 1, ?_, ?_⟩
      · obtain ⟨i, hi, e2⟩ := List.getElem_of_mem hk
        have := bhl_lt m i hi
        rw [List.getD_eq_getElem?_getD, List.getElem?_eq_getElem hi] at this
        have e3 : (bhl m 4)[i] < 4 := this
        omega
      · rw [oth_cur]
        show (wrl N P T pl l (bhl m 4) b).2.1 = _
        rw [e]; omega
    · exact ⟨m, hm, by rw [h2]; exact hc⟩
theorem kc_plc {S : Nat} {bs : List (List (List Int))} {at' gen : Int} {rec : List Int} (h : Kc S bs 4 at' gen rec) : Plc at' := by
  rcases h with ⟨h1, -⟩ | ⟨i, h1, h2, -⟩
  · exact ⟨0, by omega, by omega⟩
  · exact ⟨i + 1, by omega, by omega⟩
def bx0 (s : na.St) (at' gen : Int) (hf : Bool) : Bx := ⟨s, at', gen, fun _ => false, fun _ => false, fun _ => false, hf⟩
section
variable {H : Ch} {M : Nat → Bool} {w : World} {B : Nat} {b : Bx} {l : List na.Opn} {s : na.St}
theorem Cs.rt (h : Cs H M w s l) : ge.Rt H.g := by
  obtain ⟨⟨tv, z⟩, -⟩ := h
  exact z.1.2.1
theorem on_cs (h : Cs H M w s l) : Calls Tryz.prog 38 #[.pointer (some ⟨H.c, 0, none⟩)] w fun e w' => e = .returned (.bool (!na.off s)) ∧ w' = w := by
  obtain ⟨⟨tv, z⟩, -⟩ := h
  exact na.on_any H.c (!na.off s) w z.cells.2.1
theorem Cs.box (h : Cs H M w s l) {w' : World} (hb : Below w.heap.size w w') (hB : w.heap.size ≤ B) (hV : Vr w' B (bxc H.c b)) (hN : NoB w' B) (hs : b.s = s) (hf : b.hf = hfl l) : Bs H M w' B b l := by
  have hM := h.2.1
  have hMB : M B = false := by
    cases q : M B with
    | false => rfl
    | true => have := hM B q; omega
  refine ⟨by rw [hs]; exact h.below hb, ?_, hV, hN, hMB, hf⟩
  obtain ⟨⟨tv, z⟩, -⟩ := h
  exact z.2.2.2.2.2.2.2.2.1.below ((na.Frm.of_below hb).hid fun k hk => by unfold mb; rw [decide_eq_false (by omega), Bool.or_false])
theorem dds_less {B0 B1 : Nat} {w' : World} {dv : Value} {T : Nat} {L : List (List Int)} (h : Dds B0 w' dv T L) (hB : B1 ≤ B0) : Dds B1 w' dv T L := by
  obtain ⟨vs, z1, z2⟩ := h
  exact ⟨vs, ⟨ownr_less z1.1 hB, z1.2⟩, fun i hi => ownr_less (z2 i hi) hB⟩
theorem open_any (h : Cs H M w s l) (ho : na.off s = false) (hT : Tab w) :
    Calls Tryz.prog 10 #[.pointer (some ⟨H.c, 0, none⟩)] w fun e w' => ∃ B at' gen rec ro rn rc x, e = .returned (.tuple #[.pointer (some ⟨B, 0, none⟩), .slice ro rn rc, .int .i64 x]) ∧ Bs H M w' B (bx0 s at' gen (hfl l)) l ∧ Byt w' (.slice ro rn rc) rec ∧ Kc H.S ((List.range 4).map (bpg H.P s)) 4 at' gen rec ∧ (at' = -1 → x = 10) ∧ (at' ≠ -1 → x = 0) ∧ w.heap.size ≤ B ∧ Below w.heap.size w w' := by
  have HC : Hid (Cs H M w s l) := h
  have SO : Hid (∀ w0, w0 = w → Calls Tryz.prog 38 #[.pointer (some ⟨H.c, 0, none⟩)] w0 fun e w' => e = .returned (.bool true) ∧ w' = w) := fun w0 e => by subst e; have := on_cs h; rw [ho] at this; exact this
  have SG : Hid (∀ w0, w0 = w → Calls Tryz.prog 31 #[.pointer (some ⟨H.c, 0, none⟩)] w0 fun e w' => e = .returned (.agg (ints .i64 [(H.N : Int), (H.P : Int), (H.S : Int), H.g3, H.g4, H.g5])) ∧ Below w.heap.size w w') := fun w0 e => by subst e; exact geo_cs h
  have SB : Hid (∀ w0, Below w.heap.size w w0 → Calls Tryz.prog 40 #[.pointer (some ⟨H.c, 0, none⟩)] w0 fun e w' => ∃ v, e = .returned v ∧ Bks w' v ((List.range 4).map (bpg H.P s)) ∧ Below w0.heap.size w0 w') := fun w0 b0 => kblocks_any (h.below b0) ho
  have SC : Hid (∀ w0 v, Below w.heap.size w w0 → Bks w0 v ((List.range 4).map (bpg H.P s)) → Calls Tryz.prog 39 #[.agg (ints .i64 [(H.N : Int), (H.P : Int), (H.S : Int), H.g3, H.g4, H.g5]), v] w0 fun x w' => CurIs H.S ((List.range 4).map (bpg H.P s)) x w' ∧ Below w0.heap.size w0 w') := fun w0 v b0 hv => current_any (H.N : Int) (H.P : Int) H.g3 H.g4 H.g5 H.S v _ w0 h.rt (hT.below b0) hv
  obtain ⟨bs, ebs⟩ : ∃ bs, (List.range 4).map (bpg H.P s) = bs := ⟨_, rfl⟩
  have EB : Hid (bs.length = 4) := by rw [← ebs]; show _ = _; simp
  rw [ebs] at SB SC ⊢
  clear h ho hT ebs
  have t0 := tR
  go_enter Tryz.func10, Tryz.ntmps10
  go_wp2_with (first
    | (have q4 := t4; refine box_lawB _ (bxc H.c (bx0 s at' gen (hfl l))) rfl (by intro v hv y e; subst e; simp [bxc, bx0] at hv) ?_; intro w4 v9 n9 B9 l9; have HX : Hid (Bs H M w4 w3.heap.size (bx0 s at' gen (hfl l)) l) := HC.out.box (BB.out.trans (B9.mono BB.out.size)) BB.out.size v9 n9 rfl rfl; have HY : Hid (Byt w4 (.slice ro rn rc) rec) := HY.out.below B9; have B3 : Hid (w.heap.size ≤ w3.heap.size) := BB.out.size; have BB : Hid (Below w.heap.size w w4) := BB.out.trans (B9.mono BB.out.size); clear v9 n9 B9 l9 t4; have t5 := tR)
    | (have q3 := t3; go_at_call 39; refine (SC.out w2 _ BB.out HK.out).mono ?_; rintro e9 w3 ⟨⟨at', gen, rec, ro, rn, rc, rfl, y9, k9⟩, B9⟩; have HY : Hid (Byt w3 (.slice ro rn rc) rec) := y9; have HKC : Hid (Kc H.S bs 4 at' gen rec) := (by show Kc _ _ _ _ _ _; have z := k9; rw [EB.out] at z; exact z); have BB : Hid (Below w.heap.size w w3) := BB.out.trans (B9.mono BB.out.size); clear y9 k9 B9 t3; have t4 := tR)
    | (have q2 := t2; go_at_call 40; refine (SB.out w1 BB.out).mono ?_; rintro e9 w2 ⟨bv, rfl, k9, B9⟩; have HK : Hid (Bks w2 bv bs) := k9; have BB : Hid (Below w.heap.size w w2) := BB.out.trans (B9.mono BB.out.size); clear k9 B9 t2; have t3 := tR)
    | (have q1 := t1; go_at_call 31; refine (SG.out w rfl).mono ?_; rintro e9 w1 ⟨rfl, B9⟩; have BB : Hid (Below w.heap.size w w1) := B9; clear B9 t1; have t2 := tR)
    | (have q0 := t0; go_at_call 38; refine (SO.out w rfl).mono ?_; rintro e9 w9 ⟨rfl, hw⟩; obtain rfl := hw.symm; clear t0; have t1 := tR))
  · rename_i hq
    go_ret3
    have ha : at' = -1 := by simpa using hq
    have e : rec = [] := by
      rcases HKC.out with ⟨-, -, z, -⟩ | ⟨i, -, z, -⟩
      · exact z
      · omega
    exact ⟨_, at', gen, rec, none, 0, 0, 10, rfl, HX.out, by rw [e]; exact Byt.nil _, HKC.out, fun _ => rfl, fun z => absurd ha z, B3.out, BB.out⟩
  · rename_i hq
    go_ret3
    exact ⟨_, at', gen, rec, ro, rn, rc, 0, rfl, HX.out, HY.out, HKC.out, fun z => absurd z (by simpa using hq), fun _ => rfl, B3.out, BB.out⟩
theorem commit_off (h : Bs H M w B b l) (ho : na.off b.s = true) (v : Value) (gen : Int) : Calls Tryz.prog 18 #[.pointer (some ⟨B, 0, none⟩), v, .int .u64 gen] w fun e w' => e = .returned (.int .i64 4) ∧ w' = w := by
  have SO : Hid (∀ w0, w0 = w → Calls Tryz.prog 38 #[.pointer (some ⟨H.c, 0, none⟩)] w0 fun e w' => e = .returned (.bool false) ∧ w' = w) := fun w0 e => by subst e; have := on_cs h.1; rw [ho] at this; exact this
  have c0 := h.2.2.1.cell 0 _ rfl
  clear h ho
  have t0 := tR
  go_enter Tryz.func18, Tryz.ntmps18
  go_wp2_with (first
    | (have q0 := t0; go_at_call 38; refine (SO.out w rfl).mono ?_; rintro e9 w9 ⟨rfl, hw⟩; obtain rfl := hw.symm; clear t0; have t1 := tR))
  go_ret
  exact ⟨rfl, rfl⟩
theorem Dds.hid {B0 : Nat} {w' : World} {dv : Value} {S : Nat} {xs : List Int} {gen : Int} (h : Dds B0 w' dv (S + 88) (lps S xs gen)) (h1 : 32 ≤ S) (h2 : S ≤ 4096) (ha : AllB xs) {M : Nat → Bool} (hM : ∀ k, M k = true → k < B0) : Ddh (na.hid M w') dv (S + 88) (lps S xs gen) := by
  obtain ⟨vs, z1, z2⟩ := h
  exact ⟨vs, na.owr_hid z1 hM, fun i hi => na.own_hid (z2 i hi) (wth_all h1 h2 ha i (by rw [lps_len] at hi; exact hi)) hM⟩
theorem commit_any (h : Bs H M w B b l) (hp : Plc b.cur) (v : Value) (xs : List Int) (hy : Byt w v xs) (hl : xs.length = 624) (gen : Int) (hg : 0 ≤ gen ∧ gen ≤ 18446744073709551615) (hT : Tab w) (hn : na.ops b.s ≤ 900000) :
    Calls Tryz.prog 18 #[.pointer (some ⟨B, 0, none⟩), v, .int .u64 gen] w (Opd H M w B (cmt H.N H.P H.T H.pl b (lps H.S xs gen) gen).2 (cmt H.N H.P H.T H.pl b (lps H.S xs gen) gen).1) := by
  cases ho : na.off b.s with
  | true =>
    unfold cmt
    rw [if_pos ho]
    exact (commit_off h ho v gen).mono fun e w' ⟨h1, h2⟩ => ⟨M, l, h1, by rw [h2]; exact h, by rw [h2]; exact Fr.refl _ _ _⟩
  | false =>
    obtain ⟨m, hm, hc⟩ := hp
    have s12 := rt_sec h.1.rt
    have nl := nc_le s12.1 s12.2
    have SO : Hid (∀ w0, w0 = w → Calls Tryz.prog 38 #[.pointer (some ⟨H.c, 0, none⟩)] w0 fun e w' => e = .returned (.bool true) ∧ w' = w) := fun w0 e => by subst e; have := on_cs h.1; rw [ho] at this; exact this
    have SG : Hid (∀ w0, w0 = w → Calls Tryz.prog 31 #[.pointer (some ⟨H.c, 0, none⟩)] w0 fun e w' => e = .returned (.agg (ints .i64 [(H.N : Int), (H.P : Int), (H.S : Int), H.g3, H.g4, H.g5])) ∧ Below w.heap.size w w') := fun w0 e => by subst e; exact geo_cs h.1
    have SD : Hid (∀ w0, Below w.heap.size w w0 → Calls Tryz.prog 45 #[.agg (ints .i64 [(H.N : Int), (H.P : Int), (H.S : Int), H.g3, H.g4, H.g5]), v, .int .u64 gen] w0 fun x w' => ∃ dv, x = .returned (.tuple #[dv, .int .i64 0]) ∧ Dds w0.heap.size w' dv (H.S + 88) (lps H.S xs gen) ∧ Below w0.heap.size w0 w') := fun w0 b0 => deeds_yes (H.N : Int) (H.P : Int) H.g3 H.g4 H.g5 H.S v xs gen w0 h.1.rt (hy.below b0) hl hy.all hg (hT.below b0)
    have SW : Hid (∀ w0 dv, Below w.heap.size w w0 → Dds w.heap.size w0 dv (H.S + 88) (lps H.S xs gen) → Calls Tryz.prog 46 #[.pointer (some ⟨B, 0, none⟩), dv] w0 (Wrd H M w0 B (wrl H.N H.P H.T H.pl (lps H.S xs gen) (bhl m 4) b))) := fun w0 dv b0 d0 => write_any (h.below b0) m hm hc dv (lps H.S xs gen) (by rw [lps_len]; omega) (d0.hid s12.1 s12.2 hy.all fun k q => by
      unfold mb at q
      simp only [Bool.or_eq_true, decide_eq_true_eq] at q
      rcases q with q | q
      · exact h.1.2.1 k q
      · rw [q]; exact h.lt) (fun i hi => wth_len s12.1 s12.2 hl i (by rw [lps_len] at hi; exact hi)) hn
    have c0 := h.2.2.1.cell 0 _ rfl
    have hwo := (wrl_cur (N := H.N) (P := H.P) (T := H.T) (pl := H.pl) (l := lps H.S xs gen) (bhl m 4) b).2.2
    have hbl := bhl_len m 4
    rw [cmt_wrl hc ho]
    have hro : na.ops (wrl H.N H.P H.T H.pl (lps H.S xs gen) (bhl m 4) b).1.s ≤ 999980 := by
      have : (bhl m 4).length * ((lps H.S xs gen).length + 5) ≤ 4 * 25 := Nat.mul_le_mul hbl (by rw [lps_len]; omega)
      omega
    generalize wrl H.N H.P H.T H.pl (lps H.S xs gen) (bhl m 4) b = R at SW hro ⊢
    obtain ⟨b1, k1, x1⟩ := R
    have HRO : Hid (na.ops b1.s ≤ 999980) := hro
    clear h hc hy hl hg hT hn ho hm s12 nl hwo hbl hro
    by_cases h0 : x1 = 0
    · subst h0
      have ef : fin H.P H.T H.pl gen (b1, k1, 0) = oth H.P H.T H.pl 4 { b1 with cur := k1, gen := gen } 0 := rfl
      rw [ef]
      obtain ⟨RO, er⟩ : ∃ RO, oth H.P H.T H.pl 4 { b1 with cur := k1, gen := gen } 0 = RO := ⟨_, rfl⟩
      have SX : Hid (∀ M0 w0 l0, Bs H M0 w0 B { b1 with cur := k1, gen := gen } l0 → Calls Tryz.prog 47 #[.pointer (some ⟨B, 0, none⟩)] w0 (Opd H M0 w0 B RO.2 RO.1)) := fun M0 w0 l0 b0 => by rw [← er]; exact others_any b0 HRO.out
      rw [er]
      clear er ef
      obtain ⟨b2, x2⟩ := RO
      have t0 := tR
      go_enter Tryz.func18, Tryz.ntmps18
      go_wp2_with (first
        | (have q6 := t6; go_at_call 47; refine (SX.out M3 w5 l3 HB.out).mono ?_; rintro e9 w6 ⟨M6, l6, rfl, b9, f9⟩; have HF : Hid (Fr M w B M6 w6) := HF.out.trans f9; have HB : Hid (Bs H M6 w6 B b2 l6) := b9; clear b9 f9 t6; have t7 := tR)
        | (have q5 := t5; (with_reducible refine at_store ?_); refine cell_law HB.out 2 (.int .u64 gen) { b1 with cur := k1, gen := gen } rfl rfl (by decide) rfl rfl (fun y z => by cases z) (by kernel_rfl) rfl rfl rfl ?_; intro w5 b9 f9; have HF : Hid (Fr M w B M3 w5) := HF.out.trans f9; have HB : Hid (Bs H M3 w5 B { b1 with cur := k1, gen := gen } l3) := b9; clear b9 f9 t5; have t6 := tR)
        | (have q4 := t4; (with_reducible refine at_store ?_); refine cell_law HB.out 1 (.int .i64 k1) { b1 with cur := k1 } rfl rfl (by decide) rfl rfl (fun y z => by cases z) (by kernel_rfl) rfl rfl rfl ?_; intro w4 b9 f9; have HF : Hid (Fr M w B M3 w4) := HF.out.trans f9; have HB : Hid (Bs H M3 w4 B { b1 with cur := k1 } l3) := b9; clear b9 f9 t4; have t5 := tR)
        | (have q3 := t3; go_at_call 46; refine (SW.out w2 dv BB.out HD.out).mono ?_; rintro e9 w3 ⟨M3, l3, rfl, b9, f9⟩; have HB : Hid (Bs H M3 w3 B b1 l3) := b9; have HF : Hid (Fr M w B M3 w3) := (Fr.of_below BB.out).trans f9; clear b9 f9 t3; have t4 := tR)
        | (have q2 := t2; go_at_call 45; refine (SD.out w1 BB.out).mono ?_; rintro e9 w2 ⟨dv, rfl, d9, B9⟩; have HD : Hid (Dds w.heap.size w2 dv (H.S + 88) (lps H.S xs gen)) := dds_less d9 BB.out.size; have BB : Hid (Below w.heap.size w w2) := BB.out.trans (B9.mono BB.out.size); clear d9 B9 t2; have t3 := tR)
        | (have q1 := t1; go_at_call 31; refine (SG.out w rfl).mono ?_; rintro e9 w1 ⟨rfl, B9⟩; have BB : Hid (Below w.heap.size w w1) := B9; clear B9 t1 c0; have t2 := tR)
        | (have q0 := t0; go_at_call 38; refine (SO.out w rfl).mono ?_; rintro e9 w9 ⟨rfl, hw⟩; obtain rfl := hw.symm; clear t0; have t1 := tR))
      go_ret
      exact ⟨_, _, rfl, HB.out, HF.out⟩
    · have n0 : (x1 != 0) = true := bne_iff_ne.2 h0
      have ef : fin H.P H.T H.pl gen (b1, k1, x1) = (b1, x1) := if_neg h0
      rw [ef]
      clear ef h0
      have t0 := tR
      go_enter Tryz.func18, Tryz.ntmps18
      go_wp2_with (first
        | (have q3 := t3; go_at_call 46; refine (SW.out w2 dv BB.out HD.out).mono ?_; rintro e9 w3 ⟨M3, l3, rfl, b9, f9⟩; have HB : Hid (Bs H M3 w3 B b1 l3) := b9; have HF : Hid (Fr M w B M3 w3) := (Fr.of_below BB.out).trans f9; clear b9 f9 t3; have t4 := tR)
        | (have q2 := t2; go_at_call 45; refine (SD.out w1 BB.out).mono ?_; rintro e9 w2 ⟨dv, rfl, d9, B9⟩; have HD : Hid (Dds w.heap.size w2 dv (H.S + 88) (lps H.S xs gen)) := dds_less d9 BB.out.size; have BB : Hid (Below w.heap.size w w2) := BB.out.trans (B9.mono BB.out.size); clear d9 B9 t2; have t3 := tR)
        | (have q1 := t1; go_at_call 31; refine (SG.out w rfl).mono ?_; rintro e9 w1 ⟨rfl, B9⟩; have BB : Hid (Below w.heap.size w w1) := B9; clear B9 t1 c0; have t2 := tR)
        | (have q0 := t0; go_at_call 38; refine (SO.out w rfl).mono ?_; rintro e9 w9 ⟨rfl, hw⟩; obtain rfl := hw.symm; clear t0; have t1 := tR))
      go_ret
      exact ⟨_, _, rfl, HB.out, HF.out⟩
end
theorem current_bs {H : Ch} {b : Bx} {w : World} {B : Nat} (h : Vr w B (bxc H.c b)) : Calls Tryz.prog 26 #[.pointer (some ⟨B, 0, none⟩)] w fun e w' => e = .returned (.int .i64 b.cur) ∧ w' = w := by
  have c0 := h.cell 0 _ rfl
  have c1 := h.cell 1 _ rfl
  clear h
  go_enter Tryz.func26, Tryz.ntmps26
  go_wp2
  go_ret
  exact ⟨rfl, rfl⟩
theorem gen_bs {H : Ch} {b : Bx} {w : World} {B : Nat} (h : Vr w B (bxc H.c b)) : Calls Tryz.prog 28 #[.pointer (some ⟨B, 0, none⟩)] w fun e w' => e = .returned (.int .u64 b.gen) ∧ w' = w := by
  have c2 := h.cell 2 _ rfl
  clear h
  go_enter Tryz.func28, Tryz.ntmps28
  go_wp2
  go_ret
  exact ⟨rfl, rfl⟩
end Go.Proofs.YtakibiigcdgohaaGreatDoor.vb
namespace Go.Proofs.YtakibiigcdgohaaGreatDoor.vb
open Go.RowKit Go.Proofs.YtakibiigcdgohaaGreatDoor.fa Go.Proofs.YtakibiigcdgohaaGreatDoor.he Go.Proofs.YtakibiigcdgohaaGreatDoor.na Go.Proofs.YtakibiigcdgohaaGreatDoor.ck
set_option maxRecDepth 20000
def Found (S : Nat) (s : St) (rec : List Int) (g : Int) : Prop := ∃ c, c < 4 ∧ Dne S c rec g s ∧ ∀ k, k < 4 → k ≠ c → Hd S (pgs s k) → hg S (pgs s k) < g
def Oe (S : Nat) (s : St) (g : Int) (k : Nat) : Prop := ¬ Kcm S (pgs s k (nc S - 1)) ∨ (Hd S (pgs s k) ∧ hg S (pgs s k) < g)
def Ak (S P : Nat) (b : Bx) (k : Nat) : Prop := Oe S b.s b.gen k ∨ (Nul P (S + 88) b.s k ∧ b.bad k = true)
theorem oe_less {S : Nat} {s : St} {g : Int} {k : Nat} (h : Oe S s g k) (q : Hd S (pgs s k)) : hg S (pgs s k) < g := by
  rcases h with z | z
  · exact absurd q.2 z
  · exact z.2
theorem ak_less {S P : Nat} {b : Bx} {k : Nat} (h1 : 1 ≤ nc S) (hP : nc S ≤ P) (h : Ak S P b k) (q : Hd S (pgs b.s k)) : hg S (pgs b.s k) < b.gen := by
  rcases h with z | z
  · exact oe_less z q
  · exact absurd q (nul_not h1 hP z.1)
theorem pgs_sam {s s' : St} {k : Nat} (h : Sam s s' k) : pgs s' k = pgs s k := funext fun p => (h.1 p).1
theorem dne_sam {S k : Nat} {xs : List Int} {g : Int} {s s' : St} (h : Sam s s' k) (q : Dne S k xs g s) : Dne S k xs g s' := by
  unfold Dne; rw [pgs_sam h]; exact q
theorem oe_sam {S k : Nat} {g : Int} {s s' : St} (h : Sam s s' k) (q : Oe S s g k) : Oe S s' g k := by
  unfold Oe; rw [pgs_sam h]; exact q
theorem ak_sam {S P k : Nat} {b b' : Bx} (h : Sam b.s b'.s k) (hb : b'.bad k = b.bad k) (hg : b'.gen = b.gen) (q : Ak S P b k) : Ak S P b' k := by
  rcases q with z | z
  · exact .inl (by rw [hg]; exact oe_sam h z)
  · exact .inr ⟨h.nul z.1, by rw [hb]; exact z.2⟩
def Inv (S N P : Nat) (b : Bx) (rec : List Int) : Prop :=
  Wf N P (S + 88) b.s ∧ J P (S + 88) b ∧ (∀ k : Nat, k < 4 → b.lk k = false) ∧ ∃ c : Nat, c < 4 ∧ b.cur = (c : Int) ∧ b.cln c = false ∧ Dne S c rec b.gen b.s ∧ ∀ k : Nat, k < 4 → k ≠ c → Ak S P b k
theorem inv_found {S N P : Nat} {b : Bx} {rec : List Int} (h1 : 1 ≤ nc S) (hP : nc S ≤ P) (h : Inv S N P b rec) : Found S b.s rec b.gen := by
  obtain ⟨-, -, -, c, hc, -, -, hd, ho⟩ := h
  exact ⟨c, hc, hd, fun k hk hne q => ak_less h1 hP (ho k hk hne) q⟩
def Pre (S N P : Nat) (b : Bx) (rec : List Int) (c k : Nat) : Prop :=
  Wf N P (S + 88) b.s ∧ (∀ j, j < 4 → j ≠ k → Jk P (S + 88) b j) ∧ (∀ j, j < 4 → b.lk j = false) ∧ c < 4 ∧ b.cur = (c : Int) ∧ b.cln c = false ∧ Dne S c rec b.gen b.s ∧ (∀ j, j < 4 → j ≠ c → j ≠ k → Ak S P b j) ∧ k < 4 ∧ k ≠ c ∧ Oe S b.s b.gen k
theorem inv_pre {S N P : Nat} {b : Bx} {rec : List Int} {k : Nat} (h : Inv S N P b rec) (hk : k < 4) (hc : (k : Int) ≠ b.cur) (hb : b.bad k = false) : ∃ c, Pre S N P b rec c k := by
  obtain ⟨w, j, l, c, c1, c2, c3, c4, c5⟩ := h
  have hne : k ≠ c := fun e => hc (by rw [c2, e])
  refine ⟨c, w, fun q hq _ => j q hq, l, c1, c2, c3, c4, fun q hq hn _ => c5 q hq hn, hk, hne, ?_⟩
  rcases c5 k hk hne with z | z
  · exact z
  · rw [hb] at z; exact absurd z.2 Bool.false_ne_true
theorem dst_on {P T : Nat} {pl : Pln} {b : Bx} {k : Nat} (h : (dst P T pl b k).2 ≠ 4) : off (dst P T pl b k).1.s = false := by
  unfold dst at h ⊢
  split at h
  · exact absurd rfl h
  · rename_i h0
    rw [if_neg h0]
    split at h
    · rename_i hp
      show crs (pl (ops b.s)) = false
      rw [hp]; rfl
    · exact absurd rfl h
    · split at h
      · rename_i hq
        show crs (pl (ops b.s + 1)) = false
        rw [hq]; rfl
      · exact absurd rfl h
      · rename_i hq
        show crs (pl (ops b.s + 1)) = false
        rw [hq]; rfl
theorem dst_hf {P T : Nat} {pl : Pln} {b : Bx} {k : Nat} (h : (dst P T pl b k).1.hf = false) : b.hf = false := by
  unfold dst at h
  split at h
  · exact h
  · split at h
    · exact h
    · exact h
    · split at h
      · exact h
      · exact absurd (show true = false from h) (by decide)
      · exact absurd (show true = false from h) (by decide)
theorem edo_pgs {P T k p : Nat} {pl : Pln} {s : St} : pgs (edo P T pl s k) k p = ern P T (pl (ops s)) (pgs s k) p := by
  show (if k = k then _ else _) = _
  rw [if_pos rfl]
theorem part_less {S N P k : Nat} {pl : Pln} {s : St} {g : Int} {c : Bool} {m : List Int} (h1 : 1 ≤ nc S) (hP : nc S ≤ P) (hw : Wf N P (S + 88) s) (hk : k < N) (hp : pl (ops s) = some (c, m)) (ho : Oe S s g k) (q : Hd S (pgs (edo P (S + 88) pl s k) k)) : hg S (pgs (edo P (S + 88) pl s k) k) < g := by
  have wo : ∀ p, p < P → (pgs s k p).length = S + 88 ∧ AllB (pgs s k p) := fun p hp => ⟨((hw k hk).1 p hp).1, ((hw k hk).1 p hp).2.1⟩
  have en : ∀ p, pgs (edo P (S + 88) pl s k) k p = ern P (S + 88) (some (c, m)) (pgs s k) p := fun p => by rw [edo_pgs, hp]
  have wn : ∀ p, p < P → (pgs (edo P (S + 88) pl s k) k p).length = S + 88 ∧ AllB (pgs (edo P (S + 88) pl s k) k p) := fun p hp => by rw [en]; exact ern_wf P (S + 88) _ _ p hp
  have up : ∀ p, p < P → ∀ i, i < 8 * (S + 88) → hs (pgs s k p) i = true → hs (pgs (edo P (S + 88) pl s k) k p) i = true := fun p hp i hi hb => by
    rw [en]
    exact ern_up (fun p hp => (wo p hp).1) c m p i hp hi hb
  rcases ho with z | z
  · exact absurd (up_kcm (wo _ (by omega)).1 (wo _ (by omega)).2 (wn _ (by omega)).1 (wn _ (by omega)).2 (up _ (by omega)) q.2) z
  · have e := up_gen (wo 0 (by omega)).2 (wn 0 (by omega)).2 (up 0 (by omega)) (z.1.1 0 (by omega)) (q.1 0 (by omega))
    rw [e]; exact z.2
theorem dst_c {S N P : Nat} {pl : Pln} {b : Bx} {rec : List Int} {c k : Nat} (h1 : 1 ≤ nc S) (hP : nc S ≤ P) (h4 : 4 ≤ N) (h : Pre S N P b rec c k) (ho : off b.s = false) (hf : (dst P (S + 88) pl b k).1.hf = false) :
    ((dst P (S + 88) pl b k).2 = 4 → Found S (dst P (S + 88) pl b k).1.s rec b.gen) ∧
    ((dst P (S + 88) pl b k).2 ≠ 4 → Inv S N P (dst P (S + 88) pl b k).1 rec ∧ ((dst P (S + 88) pl b k).2 = 0 → Fsh P (S + 88) (dst P (S + 88) pl b k).1.s k)) := by
  obtain ⟨w, jj, ll, c1, c2, c3, c4, c5, k1, k2, k3⟩ := h
  have sm : ∀ j, j ≠ k → Sam b.s (dst P (S + 88) pl b k).1.s j := fun j hj => dst_sam hj
  have oth' : ∀ j, j < 4 → j ≠ c → j ≠ k → Ak S P (dst P (S + 88) pl b k).1 j := fun j hj n1 n2 => ak_sam (sm j n2) (dst_fl n2).2.1 dst_cur.2 (c5 j hj n1 n2)
  have dn : Dne S c rec b.gen (dst P (S + 88) pl b k).1.s := dne_sam (sm c fun e => k2 e.symm) c4
  have fin : Wf N P (S + 88) (dst P (S + 88) pl b k).1.s → (∀ j, j < 4 → (dst P (S + 88) pl b k).1.lk j = false) → Ak S P (dst P (S + 88) pl b k).1 k → (dst P (S + 88) pl b k).2 ≠ 4 → Inv S N P (dst P (S + 88) pl b k).1 rec := fun f1 f2 f3 f4 => by
    refine ⟨f1, (dst_j jj f4).1, f2, c, c1, dst_cur.1.trans c2, (dst_fl fun e => k2 e.symm).1.trans c3, by rw [dst_cur.2]; exact dn, fun j hj hne => ?_⟩
    by_cases e : j = k
    · rw [e]; exact f3
    · exact oth' j hj hne e
  match hp : pl (ops b.s) with
  | none =>
    have e : dst P (S + 88) pl b k = ({ b with s := edo P (S + 88) pl b.s k, cln := at1 b.cln k true, lk := at1 b.lk k false }, 0) := by
      unfold dst
      rw [if_neg (by rw [ho]; exact Bool.false_ne_true), hp]
    refine ⟨fun z => ?_, fun _ => ⟨fin ?_ ?_ ?_ ?_, fun _ => ?_⟩⟩
    · rw [e] at z; exact absurd (show (0 : Int) = 4 from z) (by decide)
    · rw [e]; exact edo_wf w pl k
    · intro j hj
      by_cases q : j = k
      · rw [e, q]; exact at1_same _ _ _
      · rw [(dst_fl q).2.2]; exact ll j hj
    · refine .inl (.inl ?_)
      have f : Fsh P (S + 88) (dst P (S + 88) pl b k).1.s k := by rw [e]; exact edo_fsh hp
      exact fsh_open h1 hP f
    · rw [e]; show (0 : Int) ≠ 4; decide
    · rw [e]; exact edo_fsh hp
  | some (true, m) =>
    have e : dst P (S + 88) pl b k = ({ b with s := edo P (S + 88) pl b.s k }, 4) := by
      unfold dst
      rw [if_neg (by rw [ho]; exact Bool.false_ne_true), hp]
    refine ⟨fun _ => ⟨c, c1, dn, fun j hj hne q => ?_⟩, fun z => absurd (by rw [e]) z⟩
    by_cases r : j = k
    · subst r
      rw [e] at q ⊢
      exact part_less h1 hP w (by omega) hp k3 q
    · have z := ak_less h1 hP (oth' j hj hne r) q
      rwa [dst_cur.2] at z
  | some (false, m) =>
    match hq : pl (ops b.s + 1) with
    | none =>
      have e : dst P (S + 88) pl b k = ({ b with s := sdo P (S + 88) pl (edo P (S + 88) pl b.s k) k, bad := at1 b.bad k true, cln := at1 b.cln k false, lk := at1 b.lk k false }, 5) := by
        unfold dst
        rw [if_neg (by rw [ho]; exact Bool.false_ne_true), hp]
        simp only []
        rw [hq]
      refine ⟨fun z => ?_, fun _ => ⟨fin ?_ ?_ ?_ ?_, fun z => ?_⟩⟩
      · rw [e] at z; exact absurd (show (5 : Int) = 4 from z) (by decide)
      · rw [e]; exact sdo_wf (edo_wf w pl k) pl k
      · intro j hj
        by_cases q : j = k
        · rw [e, q]; exact at1_same _ _ _
        · rw [(dst_fl q).2.2]; exact ll j hj
      · refine .inr ⟨?_, ?_⟩
        · rw [e]; exact sdo_nul hq
        · rw [e]; exact at1_same _ _ _
      · rw [e]; show (5 : Int) ≠ 4; decide
      · rw [e] at z; exact absurd (show (5 : Int) = 0 from z) (by decide)
    | some (true, m2) =>
      exfalso
      unfold dst at hf
      rw [if_neg (by rw [ho]; exact Bool.false_ne_true), hp] at hf
      simp only [] at hf
      rw [hq] at hf
      exact absurd (show true = false from hf) (by decide)
    | some (false, m2) =>
      exfalso
      unfold dst at hf
      rw [if_neg (by rw [ho]; exact Bool.false_ne_true), hp] at hf
      simp only [] at hf
      rw [hq] at hf
      exact absurd (show true = false from hf) (by decide)
end Go.Proofs.YtakibiigcdgohaaGreatDoor.vb
namespace Go.Proofs.YtakibiigcdgohaaGreatDoor.vb
open Go.RowKit Go.Proofs.YtakibiigcdgohaaGreatDoor.fa Go.Proofs.YtakibiigcdgohaaGreatDoor.he Go.Proofs.YtakibiigcdgohaaGreatDoor.na Go.Proofs.YtakibiigcdgohaaGreatDoor.ck
set_option maxRecDepth 20000
theorem prg_wf {N P T k p : Nat} {pl : Pln} {s : St} {d : List Int} (h : Wf N P T s) : Wf N P T (prg N P T pl s k p d).1 := by
  unfold prg
  split
  · exact h
  · rename_i hn
    obtain ⟨-, q1, -, q2, -⟩ := pno_none hn
    rw [Int.toNat_natCast, Int.toNat_natCast] at q2
    exact pdo_wf h pl k p d (by omega) q2
theorem wri_wf {N P T k : Nat} {pl : Pln} {l : List (List Int)} : ∀ (m : Nat) (s : St) (i : Nat), Wf N P T s → Wf N P T (wri N P T pl l k m s i).1
  | 0, _, _, h => h
  | m + 1, s, i, h => by
    unfold wri
    split
    · exact wri_wf m _ _ (prg_wf h)
    · exact prg_wf h
theorem oth_hf {P T : Nat} {pl : Pln} : ∀ (m : Nat) (b : Bx) (k : Nat), (oth P T pl m b k).1.hf = false → b.hf = false
  | 0, _, _, h => h
  | m + 1, b, k, h => by
    unfold oth at h
    split at h
    · exact oth_hf m b (k + 1) h
    · split at h
      · exact dst_hf h
      · exact dst_hf (oth_hf m _ (k + 1) h)
theorem oth_c {S N P : Nat} {pl : Pln} {rec : List Int} (h1 : 1 ≤ nc S) (hP : nc S ≤ P) (h4 : 4 ≤ N) : ∀ (m : Nat) (b : Bx) (k : Nat), k + m ≤ 4 → Inv S N P b rec → off b.s = false → (oth P (S + 88) pl m b k).1.hf = false →
    ((oth P (S + 88) pl m b k).2 = 4 → Found S (oth P (S + 88) pl m b k).1.s rec b.gen) ∧ ((oth P (S + 88) pl m b k).2 ≠ 4 → Inv S N P (oth P (S + 88) pl m b k).1 rec ∧ (oth P (S + 88) pl m b k).1.gen = b.gen ∧ off (oth P (S + 88) pl m b k).1.s = false)
  | 0, _, _, _, h, ho, _ => ⟨fun z => absurd (show (0 : Int) = 4 from z) (by decide), fun _ => ⟨h, rfl, ho⟩⟩
  | m + 1, b, k, hm, h, ho, hf => by
    unfold oth at hf ⊢
    by_cases q : (k : Int) = b.cur ∨ b.cln k = true ∨ (b.bad k = true ∧ b.lk k = false)
    · rw [if_pos q] at hf ⊢
      exact oth_c h1 hP h4 m b (k + 1) (by omega) h ho hf
    · rw [if_neg q] at hf ⊢
      have hb : b.bad k = false := by
        cases hz : b.bad k with
        | false => rfl
        | true => exact absurd (.inr (.inr ⟨hz, h.2.2.1 k (by omega)⟩)) q
      obtain ⟨c, pr⟩ := inv_pre h (show k < 4 by omega) (fun e => q (.inl e)) hb
      by_cases q4 : (dst P (S + 88) pl b k).2 = 4
      · rw [if_pos q4] at hf ⊢
        have dd := dst_c (pl := pl) h1 hP h4 pr ho hf
        exact ⟨fun z => dd.1 z, fun z => absurd q4 z⟩
      · rw [if_neg q4] at hf ⊢
        have dd := dst_c (pl := pl) h1 hP h4 pr ho (oth_hf m _ _ hf)
        have z := oth_c h1 hP h4 m (dst P (S + 88) pl b k).1 (k + 1) (by omega) (dd.2 q4).1 (dst_on q4) hf
        rw [dst_cur.2] at z
        exact z
theorem found_kc {S P : Nat} {s : St} {rec : List Int} {g : Int} (h1 : 1 ≤ nc S) (hP : nc S ≤ P) (h : Found S s rec g) : ∃ c : Nat, c < 4 ∧ Kc S ((List.range 4).map (bpg P s)) 4 (c : Int) g rec := by
  obtain ⟨c, hc, hd, ho⟩ := h
  have at4 : ∀ k, k < 4 → ((List.range 4).map (bpg P s)).getD k [] = bpg P s k := fun k hk => by simp [List.getD, hk]
  have b : ∀ k, hg S (pgs s k) = kgen S (bpg P s k) ∧ hrec S (pgs s k) = krec S (bpg P s k) ∧ (Hd S (pgs s k) ↔ Khd S (bpg P s k)) := fun k => hd_bpg h1 hP
  refine ⟨c, hc, .inr ⟨c, hc, rfl, ?_, ?_, ?_, fun k hk q => ?_, fun k hk q => ?_⟩⟩
  · rw [at4 c hc]; exact (b c).2.2.1 hd.1
  · rw [at4 c hc, ← (b c).1]; exact hd.2.1.symm
  · rw [at4 c hc, ← (b c).2.1]; exact hd.2.2.symm
  · rw [at4 k hk] at q ⊢
    by_cases e : k = c
    · subst e; rw [← (b k).1, hd.2.1]; exact Int.le_refl _
    · have z := ho k hk e ((b k).2.2.2 q)
      rw [(b k).1] at z; omega
  · have hk4 : k < 4 := by omega
    rw [at4 k hk4] at q ⊢
    have z := ho k hk4 (by omega) ((b k).2.2.2 q)
    rw [(b k).1] at z; exact z
end Go.Proofs.YtakibiigcdgohaaGreatDoor.vb
namespace Go.Proofs.YtakibiigcdgohaaGreatDoor.vb
open Go.RowKit Go.Proofs.YtakibiigcdgohaaGreatDoor.fa Go.Proofs.YtakibiigcdgohaaGreatDoor.he Go.Proofs.YtakibiigcdgohaaGreatDoor.na Go.Proofs.YtakibiigcdgohaaGreatDoor.ck
set_option maxRecDepth 20000
theorem dst_none {P T : Nat} {pl : Pln} {b : Bx} {k : Nat} (ho : off b.s = false) (hp : pl (ops b.s) = none) : dst P T pl b k = ({ b with s := edo P T pl b.s k, cln := at1 b.cln k true, lk := at1 b.lk k false }, 0) := by
  unfold dst
  rw [if_neg (by rw [ho]; exact Bool.false_ne_true), hp]
theorem wri_none {N P S k : Nat} {pl : Pln} {xs : List Int} {gen : Int} (h1 : 32 ≤ S) (h2 : S ≤ 4096) (hl : xs.length = 624) (ha : AllB xs) (hg0 : 0 ≤ gen ∧ gen ≤ 18446744073709551615) (hP : nc S ≤ P) (hk : k < N) : ∀ (m : Nat) (s : St) (i : Nat), i + (m + 1) = nc S + 1 → Wst P S k xs gen i s → (∀ j, j ≤ m → pl (ops s + j) = none) →
    (wri N P (S + 88) pl (kps S xs gen (List.replicate 8 255)) k (m + 1) s i).2 = 0 ∧ ops (wri N P (S + 88) pl (kps S xs gen (List.replicate 8 255)) k (m + 1) s i).1 = ops s + (m + 1)
  | 0, s, i, hi, h, hp => by
    have n := nc_le h1 h2
    have e : i = nc S := by omega
    subst e
    obtain ⟨e1, -⟩ := wst_mark (N := N) (pl := pl) h1 h2 hl ha hg0 hP hk h
    have w1 : wpl (kps S xs gen (List.replicate 8 255)) (nc S) = nc S - 1 := by unfold wpl; rw [kps_len]; omega
    have w2 : wth (S + 88) (kps S xs gen (List.replicate 8 255)) (nc S) = he.mark (S + 88) := by unfold wth; rw [kps_len, if_neg (Nat.lt_irrefl _)]
    have p0 : pl (ops s) = none := hp 0 (Nat.le_refl _)
    unfold wri
    rw [w1, w2, e1, p0, if_pos (by rfl)]
    exact ⟨rfl, rfl⟩
  | m + 1, s, i, hi, h, hp => by
    have n := nc_le h1 h2
    have hlt : i < nc S := by omega
    have e1 := wst_prg (N := N) (pl := pl) h1 h2 hl ha hP hk hlt h
    have w1 : wpl (kps S xs gen (List.replicate 8 255)) i = i := by unfold wpl; rw [kps_len]; omega
    have w2 : wth (S + 88) (kps S xs gen (List.replicate 8 255)) i = pgk S xs gen (List.replicate 8 255) i := by unfold wth; rw [kps_len, if_pos hlt, kps_255 S xs gen i hlt]
    have p0 : pl (ops s) = none := hp 0 (Nat.zero_le _)
    unfold wri
    rw [w1, w2, e1, p0, if_pos (by rfl)]
    have z := wri_none h1 h2 hl ha hg0 hP hk m (pdo (S + 88) pl s k i (pgk S xs gen (List.replicate 8 255) i)) (i + 1) (by omega) (wst_next h1 h2 hl ha hP hlt h p0) fun j hj => by
      have q := hp (j + 1) (by omega)
      rw [← Nat.add_assoc] at q
      show pl (ops s + 1 + j) = none
      rw [Nat.add_right_comm]; exact q
    refine ⟨z.1, z.2.trans ?_⟩
    show ops s + 1 + (m + 1) = _
    omega
def b0 (T : Nat) : Bx := { s := new T, cur := -1, gen := 0, cln := fun _ => false, bad := fun _ => false, lk := fun _ => false, hf := false }
theorem oth_none {P T : Nat} {pl : Pln} : ∀ (m : Nat) (b : Bx) (k : Nat), off b.s = false → (∀ j, k ≤ j → b.cln j = false ∧ b.bad j = false ∧ (j : Int) ≠ b.cur) → (∀ j, j < m → pl (ops b.s + j) = none) →
    (oth P T pl m b k).2 = 0 ∧ ops (oth P T pl m b k).1.s = ops b.s + m ∧ (oth P T pl m b k).1.hf = b.hf
  | 0, _, _, _, _, _ => ⟨rfl, rfl, rfl⟩
  | m + 1, b, k, ho, hc, hp => by
    have p0 : pl (ops b.s) = none := hp 0 (by omega)
    obtain ⟨c1, c2, c3⟩ := hc k (Nat.le_refl _)
    unfold oth
    rw [if_neg (by rw [c1, c2]; simp [c3]), dst_none ho p0, if_neg (by show ¬ (0 : Int) = 4; decide)]
    have z := oth_none (P := P) (T := T) (pl := pl) m { b with s := edo P T pl b.s k, cln := at1 b.cln k true, lk := at1 b.lk k false } (k + 1) (by show crs (pl (ops b.s)) = false; rw [p0]; rfl) (fun j hj => by
      have q := hc j (by omega)
      exact ⟨(at1_other _ _ _ _ (by omega)).trans q.1, q.2.1, q.2.2⟩) (fun j hj => by
      have q := hp (j + 1) (by omega)
      show pl (ops b.s + 1 + j) = none
      rw [Nat.add_right_comm]; rw [← Nat.add_assoc] at q; exact q)
    refine ⟨z.1, z.2.1.trans ?_, z.2.2⟩
    show ops b.s + 1 + m = _
    omega
theorem cmt_first {S N P : Nat} {pl : Pln} {xs : List Int} {g : Int} (s1 : 32 ≤ S) (s2 : S ≤ 4096) (hP : nc S ≤ P) (h4 : 4 ≤ N) (hl : xs.length = 624) (ha : AllB xs) (hg0 : 0 ≤ g ∧ g ≤ 18446744073709551615) (hp : ∀ j, j < nc S + 5 → pl j = none) :
    (cmt N P (S + 88) pl (b0 (S + 88)) (kps S xs g (List.replicate 8 255)) g).2 = 0 ∧ Inv S N P (cmt N P (S + 88) pl (b0 (S + 88)) (kps S xs g (List.replicate 8 255)) g).1 xs ∧ (cmt N P (S + 88) pl (b0 (S + 88)) (kps S xs g (List.replicate 8 255)) g).1.gen = g ∧
    ops (cmt N P (S + 88) pl (b0 (S + 88)) (kps S xs g (List.replicate 8 255)) g).1.s = nc S + 5 ∧ (cmt N P (S + 88) pl (b0 (S + 88)) (kps S xs g (List.replicate 8 255)) g).1.hf = false ∧ off (cmt N P (S + 88) pl (b0 (S + 88)) (kps S xs g (List.replicate 8 255)) g).1.s = false ∧ (cmt N P (S + 88) pl (b0 (S + 88)) (kps S xs g (List.replicate 8 255)) g).1.cur = 0 := by
  have n := nc_le s1 s2
  have p0 : pl (ops (b0 (S + 88)).s) = none := hp 0 (by omega)
  obtain ⟨b1, e1⟩ : ∃ q : Bx, q = { b0 (S + 88) with s := edo P (S + 88) pl (b0 (S + 88)).s 0, cln := at1 (b0 (S + 88)).cln 0 true, lk := at1 (b0 (S + 88)).lk 0 false } := ⟨_, rfl⟩
  have d1 : dst P (S + 88) pl (b0 (S + 88)) 0 = (b1, 0) := by rw [e1]; exact dst_none rfl p0
  have o1 : off b1.s = false := by rw [e1]; show crs (pl (ops (b0 (S + 88)).s)) = false; rw [p0]; rfl
  have ops1 : ops b1.s = 1 := by rw [e1]; rfl
  have f1 : Fsh P (S + 88) b1.s 0 := by rw [e1]; exact edo_fsh p0
  have w1 := wri_none (N := N) (P := P) (k := 0) (pl := pl) s1 s2 hl ha hg0 hP (by omega) (nc S) b1.s 0 (by omega) (wst_zero f1 o1) fun j hj => hp _ (by rw [ops1]; omega)
  have wo := wri_out (N := N) (P := P) (k := 0) (pl := pl) s1 s2 hl ha hg0 hP (by omega) (nc S) b1.s 0 (by omega) (wst_zero f1 o1)
  have hll : (kps S xs g (List.replicate 8 255)).length = nc S := kps_len _ _ _ _
  obtain ⟨r, er⟩ : ∃ r, wri N P (S + 88) pl (kps S xs g (List.replicate 8 255)) 0 (nc S + 1) b1.s 0 = r := ⟨_, rfl⟩
  have wfr : Wf N P (S + 88) r.1 := by rw [← er, e1]; exact wri_wf _ _ _ (edo_wf (new_wf N P (S + 88)) pl 0)
  have sm : ∀ q, q ≠ 0 → Sam (new (S + 88)) r.1 q := fun q hq => by
    have z : Sam (new (S + 88)) b1.s q := by rw [e1]; exact sam_edo hq
    rw [← er]; exact z.trans (sam_wri hq _ _ _)
  rw [er] at w1 wo
  have dn : off r.1 = false ∧ Dne S 0 xs g r.1 := by
    rcases wo with z | z | z
    · exact z.2
    · exact absurd (w1.1.symm.trans z.1) (by decide)
    · exact absurd (w1.1.symm.trans z.1) (by decide)
  obtain ⟨b2, e2⟩ : ∃ q : Bx, q = { b1 with s := r.1, cln := at1 b1.cln 0 false, cur := 0, gen := g } := ⟨_, rfl⟩
  have fl : ∀ j, b2.cln j = false ∧ b2.bad j = false ∧ b2.lk j = false := fun j => by
    rw [e2, e1]
    by_cases q : j = 0
    · subst q
      exact ⟨show at1 (at1 (b0 (S + 88)).cln 0 true) 0 false 0 = false from at1_same _ _ _, rfl, show at1 (b0 (S + 88)).lk 0 false 0 = false from at1_same _ _ _⟩
    · exact ⟨show at1 (at1 (b0 (S + 88)).cln 0 true) 0 false j = false from (at1_other _ _ _ _ q).trans (at1_other _ _ _ _ q), rfl, show at1 (b0 (S + 88)).lk 0 false j = false from at1_other _ _ _ _ q⟩
  have i2 : Inv S N P b2 xs := by
    refine ⟨by rw [e2]; exact wfr, fun j hj => ⟨fun z => absurd z (by rw [(fl j).1]; exact Bool.false_ne_true), fun z => absurd z (by rw [(fl j).2.1]; exact Bool.false_ne_true)⟩, fun j _ => (fl j).2.2, 0, by omega, by rw [e2]; rfl, (fl 0).1, by rw [e2]; exact dn.2, fun j hj hne => .inl (.inl ?_)⟩
    rw [e2]
    show ¬ Kcm S (pgs r.1 j (nc S - 1))
    rw [pgs_sam (sm j hne)]
    exact blank_open S
  have et : tr1 N P (S + 88) pl (b0 (S + 88)) 0 (kps S xs g (List.replicate 8 255)) = ({ b1 with s := r.1, cln := at1 b1.cln 0 false }, 0) := by
    unfold tr1
    rw [if_neg (show ¬ (b0 (S + 88)).cln 0 = true from Bool.false_ne_true), d1, if_pos (by rfl)]
    unfold tr2
    simp only []
    rw [hll, er, w1.1, if_pos (.inl rfl)]
  have ec : cmt N P (S + 88) pl (b0 (S + 88)) (kps S xs g (List.replicate 8 255)) g = oth P (S + 88) pl 4 b2 0 := by
    unfold cmt
    rw [if_neg (show ¬ off (b0 (S + 88)).s = true from Bool.false_ne_true)]
    show cmi N P (S + 88) pl (kps S xs g (List.replicate 8 255)) g 4 (b0 (S + 88)) 0 = _
    unfold cmi
    rw [if_neg (show ¬ (((0 % 4 : Nat) : Int) = (b0 (S + 88)).cur ∨ (b0 (S + 88)).bad (0 % 4) = true) by simp [b0]), show 0 % 4 = 0 from rfl, et, if_neg (by show ¬ (0 : Int) = 4; decide), if_pos (by rfl), e2]
    rfl
  have eo : oth P (S + 88) pl 4 b2 0 = oth P (S + 88) pl 3 b2 1 := by
    show (if _ then _ else _) = _
    rw [if_pos (.inl (by rw [e2]; rfl))]
  have ops2 : ops b2.s = nc S + 2 := by rw [e2]; show ops r.1 = _; rw [w1.2, ops1]; omega
  have o2 : off b2.s = false := by rw [e2]; exact dn.1
  have z := oth_none (P := P) (T := S + 88) (pl := pl) 3 b2 1 o2 (fun j hj => ⟨(fl j).1, (fl j).2.1, by rw [e2]; show (j : Int) ≠ 0; omega⟩) (fun j hj => hp _ (by omega))
  have hf2 : b2.hf = false := by rw [e2, e1]; rfl
  have c := oth_c (pl := pl) (rec := xs) n.1 hP h4 3 b2 1 (by omega) i2 o2 (by rw [z.2.2]; exact hf2)
  have c' := c.2 (by rw [z.1]; decide)
  rw [ec, eo]
  exact ⟨z.1, c'.1, c'.2.1.trans (by rw [e2]), z.2.1.trans (by rw [ops2]), z.2.2.trans hf2, c'.2.2, (oth_j 3 b2 1 i2.2.1 (by rw [z.1]; decide)).2.2.1.trans (by rw [e2])⟩
end Go.Proofs.YtakibiigcdgohaaGreatDoor.vb
