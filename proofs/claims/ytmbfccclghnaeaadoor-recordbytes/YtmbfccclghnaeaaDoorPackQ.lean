/- Texts put together (a claim holds few files). No claim of its own. -/
import Derived.Test.YtmbfccclghnaeaaDoorPackK
import Derived.Test.YtmbfccclghnaeaaDoorPackI
import Derived.Test.YtmbfccclghnaeaaDoorPackP
import Derived.Deep.RegionHeld3
import Derived.Lib.SliceRun
/- What record's Bytes answers. No claim of its own. -/
namespace Go.Proofs.YtmbfccclghnaeaaDoor.re
open Go.RowKit Go.Proofs.YtmbfccclghnaeaaDoor.fa Go.Proofs.YtmbfccclghnaeaaDoor.he Go.Proofs.YtmbfccclghnaeaaDoor.so
set_option maxRecDepth 20000

/-- what is ahead of the slots -/
def hd6 (g p : Int) (al : List Int) (b : Int) (cl : List Int) : List (List Int) := [be g 8, be p 8, al, be b 8, List.replicate 8 0, cl]
/-- the bytes up to the k-th slot -/
def txt (g p : Int) (al : List Int) (b : Int) (cl : List Int) (S : Nat → Sc) : Nat → List Int
  | 0 => cats (hd6 g p al b cl) 6
  | k + 1 => txt g p al b cl S k ++ (S k).d.bs
theorem txt_four (g p : Int) (al : List Int) (b : Int) (cl : List Int) (S : Nat → Sc) : txt g p al b cl S 4 = (RC g p al b cl S).bs := by
  simp [txt, cats, hd6, RC, Rc.bs, Rc.ps]
theorem txt_len (g p : Int) (al : List Int) (b : Int) (cl : List Int) (S : Nat → Sc) (h : Rok al cl S) (k : Nat) (hk : k ≤ 4) : (txt g p al b cl S k).length = 80 + k * 128 := by
  induction k with
  | zero => simp [txt, cats, hd6, be_len, h.1, h.2.1]
  | succ k ih => rw [txt, List.length_append, ih (by omega), Sl.len (h.2.2 k (by omega))]; omega
theorem cat6_any (w : World) (c : Nat) (v0 v1 v2 v3 v4 v5 : Value) (x0 x1 x2 x3 x4 x5 : List Int) (h0 : Byt w v0 x0) (h1 : Byt w v1 x1) (h2 : Byt w v2 x2) (h3 : Byt w v3 x3) (h4 : Byt w v4 x4) (h5 : Byt w v5 x5) (l0 : x0.length ≤ 10000) (l1 : x1.length ≤ 10000) (l2 : x2.length ≤ 10000) (l3 : x3.length ≤ 10000) (l4 : x4.length ≤ 10000) (l5 : x5.length ≤ 10000) (hp : 0 < x0.length) (hV : Vr w c (pv v0 v1 v2 v3 v4 v5)) :
    Calls Tryd.prog 28 #[.slice (some ⟨c, 0, none⟩) 6 6] w fun e w' => ∃ r, e = .returned r ∧ Own w.heap.size w' r (cats [x0, x1, x2, x3, x4, x5] 6) ∧ Below w.heap.size w w' := by
  refine concat_any c 6 (fun k => (pv v0 v1 v2 v3 v4 v5).getD k undef) [x0, x1, x2, x3, x4, x5] w rfl (by omega) (fun k hk => ?_) (fun k hk => ?_) (by simp [cats]; omega) (fun k hk => ?_)
  · match k, hk with
    | 0, _ => exact h0
    | 1, _ => exact h1
    | 2, _ => exact h2
    | 3, _ => exact h3
    | 4, _ => exact h4
    | 5, _ => exact h5
  · have hk : k < 6 := hk
    match k, hk with
    | 0, _ => exact l0
    | 1, _ => exact l1
    | 2, _ => exact l2
    | 3, _ => exact l3
    | 4, _ => exact l4
    | 5, _ => exact l5
  · match k, hk with
    | 0, _ => exact hV.cell 0 _ rfl
    | 1, _ => exact hV.cell 1 _ rfl
    | 2, _ => exact hV.cell 2 _ rfl
    | 3, _ => exact hV.cell 3 _ rfl
    | 4, _ => exact hV.cell 4 _ rfl
    | 5, _ => exact hV.cell 5 _ rfl
/-- a record's bytes, with their tag -/
def rbs (g p : Int) (al : List Int) (b : Int) (cl : List Int) (S : Nat → Sc) (ks : List Int) : List Int := (RC g p al b cl S).bs ++ mc.tagB (mc.blk ks) (RC g p al b cl S).bs

set_option maxHeartbeats 4000000 in
theorem bytes_bad (g p b : Int) (a c : Value) (al cl : List Int) (S : Nat → Sc) (kv : Value) (ks : List Int) (w : World) (hR : Rin w g p b a c al cl S) (hk : Byt w kv ks) (h : ¬ Rok al cl S) :
    Calls Tryd.prog 9 #[.agg (rv g p a b c S).toArray, kv] w fun x w' => x = .returned (.tuple #[.slice none 0 0, .int .i64 2]) ∧ Below w.heap.size w w' := by
  have SR : Hid (∀ w0, Below w.heap.size w w0 → Calls Tryd.prog 11 #[.agg (rv g p a b c S).toArray] w0 fun x w' => x = .returned (.bool false) ∧ Below w0.heap.size w0 w') := fun w0 q => re.right_any g p b a c al cl S w0 (hR.below q) false ⟨fun z => absurd z h, fun z => by cases z⟩
  obtain ⟨ao, ca, rfl⟩ := form hR.2.1
  obtain ⟨co, cc, rfl⟩ := form hR.2.2.1
  obtain ⟨ko, kc, rfl⟩ := form hk
  clear hR hk h
  have t0 : (0 : Nat) = 0 := rfl
  go_enter Tryd.func9, Tryd.ntmps9
  go_wp2_with (first
    | (have q2 := t2; go_at_call 11; refine (SR.out w1 BB.out).mono ?_; rintro e9 w2 ⟨rfl, B9⟩; have HB0 : Hid (Vr w2 w.heap.size (rv g p (.slice ao al.length ca) b (.slice co cl.length cc) S)) := HB0.out.below B9 (range_lt HB0.out.1 (Nat.succ_pos _)); have BB : Hid (Below w.heap.size w w2) := BB.out.trans (B9.mono BB.out.size); clear B9; clear t2; have t3 : (1 : Nat) = 1 := rfl)
    | (have q1 := t1; refine load_lawC _ rfl (rv g p (.slice ao al.length ca) b (.slice co cl.length cc) S) w.heap.size 0 rfl HB0.out.1 rowy_record ?_; clear t1; have t2 : (1 : Nat) = 1 := rfl)
    | (have q0 := t0; refine box_lawC _ (rv g p (.slice ao al.length ca) b (.slice co cl.length cc) S) rfl ?_; intro w1 X9 B9 l9; have HB0 : Hid (Vr w1 w.heap.size (rv g p (.slice ao al.length ca) b (.slice co cl.length cc) S)) := X9; have BB : Hid (Below w.heap.size w w1) := B9; clear X9 B9 l9; clear t0; have t1 : (1 : Nat) = 1 := rfl))
  go_ret2
  exact ⟨rfl, BB.out⟩

set_option maxHeartbeats 4000000 in
theorem bytes_key (g p b : Int) (a c : Value) (al cl : List Int) (S : Nat → Sc) (kv : Value) (ks : List Int) (w : World) (hR : Rin w g p b a c al cl S) (hk : Byt w kv ks) (h : Rok al cl S) (hn : ks.length ≠ 32) :
    Calls Tryd.prog 9 #[.agg (rv g p a b c S).toArray, kv] w fun x w' => x = .returned (.tuple #[.slice none 0 0, .int .i64 2]) ∧ Below w.heap.size w w' := by
  have SR : Hid (∀ w0, Below w.heap.size w w0 → Calls Tryd.prog 11 #[.agg (rv g p a b c S).toArray] w0 fun x w' => x = .returned (.bool true) ∧ Below w0.heap.size w0 w') := fun w0 q => re.right_any g p b a c al cl S w0 (hR.below q) true ⟨fun _ => rfl, fun _ => h⟩
  obtain ⟨ao, ca, rfl⟩ := form hR.2.1
  obtain ⟨co, cc, rfl⟩ := form hR.2.2.1
  obtain ⟨ko, kc, rfl⟩ := form hk
  have n32 : ((ks.length : Int) != 32) = true := bne_iff_ne.2 (by omega)
  clear hn
  clear hR hk h
  have t0 : (0 : Nat) = 0 := rfl
  go_enter Tryd.func9, Tryd.ntmps9
  go_wp2_with (first
    | (have q2 := t2; go_at_call 11; refine (SR.out w1 BB.out).mono ?_; rintro e9 w2 ⟨rfl, B9⟩; have HB0 : Hid (Vr w2 w.heap.size (rv g p (.slice ao al.length ca) b (.slice co cl.length cc) S)) := HB0.out.below B9 (range_lt HB0.out.1 (Nat.succ_pos _)); have BB : Hid (Below w.heap.size w w2) := BB.out.trans (B9.mono BB.out.size); clear B9; clear t2; have t3 : (1 : Nat) = 1 := rfl)
    | (have q1 := t1; refine load_lawC _ rfl (rv g p (.slice ao al.length ca) b (.slice co cl.length cc) S) w.heap.size 0 rfl HB0.out.1 rowy_record ?_; clear t1; have t2 : (1 : Nat) = 1 := rfl)
    | (have q0 := t0; refine box_lawC _ (rv g p (.slice ao al.length ca) b (.slice co cl.length cc) S) rfl ?_; intro w1 X9 B9 l9; have HB0 : Hid (Vr w1 w.heap.size (rv g p (.slice ao al.length ca) b (.slice co cl.length cc) S)) := X9; have BB : Hid (Below w.heap.size w w1) := B9; clear X9 B9 l9; clear t0; have t1 : (1 : Nat) = 1 := rfl))
  go_ret2
  exact ⟨rfl, BB.out⟩

set_option maxHeartbeats 4000000 in
theorem bytes_yes (g p b : Int) (a c : Value) (al cl : List Int) (S : Nat → Sc) (kv : Value) (ks : List Int) (w : World) (hR : Rin w g p b a c al cl S) (hk : Byt w kv ks) (h : Rok al cl S) (hn : ks.length = 32) (hT : Tbl w) :
    Calls Tryd.prog 9 #[.agg (rv g p a b c S).toArray, kv] w fun x w' => ∃ r, x = .returned (.tuple #[r, .int .i64 0]) ∧ Byt w' r (rbs g p al b cl S ks) ∧ Below w.heap.size w w' := by
  have SR : Hid (∀ w0, Below w.heap.size w w0 → Calls Tryd.prog 11 #[.agg (rv g p a b c S).toArray] w0 fun x w' => x = .returned (.bool true) ∧ Below w0.heap.size w0 w') := fun w0 q => re.right_any g p b a c al cl S w0 (hR.below q) true ⟨fun _ => rfl, fun _ => h⟩
  have SP : Hid (∀ w0, Below w.heap.size w w0 → Calls Tryd.prog 27 #[.agg (rv g p a b c S).toArray] w0 fun x w' => ∃ o0 c0 o1 c1 o3 c3 o4 c4, x = .returned (.agg (pv (.slice o0 8 c0) (.slice o1 8 c1) a (.slice o3 8 c3) (.slice o4 8 c4) c).toArray) ∧ Byt w' (.slice o0 8 c0) (be g 8) ∧ Byt w' (.slice o1 8 c1) (be p 8) ∧ Byt w' (.slice o3 8 c3) (be b 8) ∧ Byt w' (.slice o4 8 c4) (List.replicate 8 0) ∧ Below w0.heap.size w0 w') := fun w0 q => parts_any g p b a c al cl S w0 (hR.below q)
  have SB : Hid (∀ k, k < 4 → ∀ w0, Below w.heap.size w w0 → Calls Tryd.prog 29 #[.agg (S k).cs.toArray] w0 fun x w' => ∃ g, x = .returned (.tuple #[.slice (some ⟨g, 0, none⟩) 128 128, .int .i64 0]) ∧ Byt w' (.slice (some ⟨g, 0, none⟩) 128 128) (S k).d.bs ∧ Below w0.heap.size w0 w') := fun k hk w0 q => so.bytes_yes _ _ _ _ _ _ w0 ((hR.2.2.2 k hk).2.below q) (hR.2.2.2 k hk).1 (h.2.2 k hk) (hT.below q hT.lt)
  have SM : Hid (∀ w0 v, Below w.heap.size w w0 → Byt w0 v (txt g p al b cl S 4) → Calls Tryd.prog 30 #[kv, v] w0 fun x w' => ∃ r, x = .returned r ∧ Byt w' r (mc.tagB (mc.blk ks) (txt g p al b cl S 4)) ∧ Below w0.heap.size w0 w') := fun w0 v q hv => mc.mtag_any w0 kv v ks _ (hk.below q) hv (by omega) (by rw [txt_len g p al b cl S h 4 (by omega)]; omega)
  have HT : Hid (∀ k, k ≤ 4 → (txt g p al b cl S k).length = 80 + k * 128) := txt_len g p al b cl S h
  have HSl : Hid (∀ k, k < 4 → (S k).d.bs.length = 128) := fun k hk => Sl.len (h.2.2 k hk)
  have TA : Hid (AllB (txt g p al b cl S 4)) := (by rw [txt_four]; exact Rc.all hR.2.1.all hR.2.2.1.all (hR.2.2.2 0 (by omega)).2.all (hR.2.2.2 1 (by omega)).2.all (hR.2.2.2 2 (by omega)).2.all (hR.2.2.2 3 (by omega)).2.all)
  have TL4 := txt_len g p al b cl S h 4 (by omega)
  have TGL : Hid ((txt g p al b cl S 4).length + (mc.tagB (mc.blk ks) (txt g p al b cl S 4)).length ≤ 140737488355328) := (by show _ ≤ _; rw [TL4, mc.tagB_len]; omega)
  have TGA : Hid (AllB (mc.tagB (mc.blk ks) (txt g p al b cl S 4))) := mc.tagB_all _ _
  have SC : Hid (∀ k, k < 4 → Slc (S k).v) := hR.slc
  have HA : Hid (Byt w a al) := hR.2.1
  have HC : Hid (Byt w c cl) := hR.2.2.1
  have LN : Hid ((be g 8).length ≤ 10000 ∧ (be p 8).length ≤ 10000 ∧ al.length ≤ 10000 ∧ (be b 8).length ≤ 10000 ∧ (List.replicate 8 (0 : Int)).length ≤ 10000 ∧ cl.length ≤ 10000) := ⟨by rw [be_len]; omega, by rw [be_len]; omega, by rw [h.1]; omega, by rw [be_len]; omega, by simp, by rw [h.2.1]; omega⟩
  have LP : Hid (0 < (be g 8).length) := (by show _ < _; rw [be_len]; omega)
  unfold rbs
  rw [← txt_four]
  obtain ⟨TT, hTT⟩ : ∃ z, txt g p al b cl S 4 = z := ⟨_, rfl⟩
  have EQ : Hid (txt g p al b cl S 4 = TT) := hTT
  rw [hTT] at SM TA TGL TGA ⊢
  obtain ⟨TG, hTG⟩ : ∃ z, mc.tagB (mc.blk ks) TT = z := ⟨_, rfl⟩
  rw [hTG] at SM TGL TGA ⊢
  obtain ⟨ao, ca, rfl⟩ := form hR.2.1
  obtain ⟨co, cc, rfl⟩ := form hR.2.2.1
  obtain ⟨ko, kc, rfl⟩ := form hk
  have n32 : ((ks.length : Int) != 32) = false := bne_eq_false_iff_eq.2 (by omega)
  clear hR hk h hn hT TL4 hTT hTG
  have t0 : (0 : Nat) = 0 := rfl
  go_enter Tryd.func9, Tryd.ntmps9
  go_wp2_with (first
    | (have q8 := t8; refine load_lawC _ rfl (sls S) w.heap.size 5 rfl (Vr.slots HB0.out) rowy_slots ?_; clear t8; have t9 : (1 : Nat) = 1 := rfl)
    | (have q7 := t7; go_at_call 28; refine (cat6_any w5 w3.heap.size _ _ _ _ _ _ _ _ _ _ _ _ Y0.out Y1.out (HA.out.below BB.out) Y3.out Y4.out (HC.out.below BB.out) LN.out.1 LN.out.2.1 LN.out.2.2.1 LN.out.2.2.2.1 LN.out.2.2.2.2.1 LN.out.2.2.2.2.2 LP.out HP.out).mono ?_; rintro e9 w6 ⟨r9, rfl, O9, B9⟩; have HB0 : Hid (Vr w6 w.heap.size (rv g p (.slice ao al.length ca) b (.slice co cl.length cc) S)) := HB0.out.below B9 (range_lt HB0.out.1 (Nat.succ_pos _)); have Y0 : Hid (Byt w6 (.slice o0 8 c0) (be g 8)) := Y0.out.below B9; have Y1 : Hid (Byt w6 (.slice o1 8 c1) (be p 8)) := Y1.out.below B9; have Y3 : Hid (Byt w6 (.slice o3 8 c3) (be b 8)) := Y3.out.below B9; have Y4 : Hid (Byt w6 (.slice o4 8 c4) (List.replicate 8 0)) := Y4.out.below B9; have NB_HP : Hid (NoB w6 w3.heap.size) := NB_HP.out.heap (B9.block _ (range_lt HP.out.1 (Nat.succ_pos _))); have HP : Hid (Vr w6 w3.heap.size (pv (.slice o0 8 c0) (.slice o1 8 c1) (.slice ao al.length ca) (.slice o3 8 c3) (.slice o4 8 c4) (.slice co cl.length cc))) := HP.out.below B9 (range_lt HP.out.1 (Nat.succ_pos _)); have HO : Hid (Own w.heap.size w6 r9 (txt g p al b cl S 0)) := own_less O9 BB.out.size; have BB : Hid (Below w.heap.size w w6) := BB.out.trans (B9.mono BB.out.size); clear B9 O9; clear t7; have t8 : (1 : Nat) = 1 := rfl)
    | (have q6 := t6; (with_reducible refine at_store ?_); refine store_lawC _ (pv (.slice o0 8 c0) (.slice o1 8 c1) (.slice ao al.length ca) (.slice o3 8 c3) (.slice o4 8 c4) (.slice co cl.length cc)) w3.heap.size 0 rfl rfl HP.out.2 rowy_parts.2 (pv_one _ _ _ _ _ _ (slc_sl _ _ _) (slc_sl _ _ _) (slc_sl _ _ _) (slc_sl _ _ _) (slc_sl _ _ _) (slc_sl _ _ _)) ?_; intro w5 E9 R9 T9 B9; have K9 : ∀ k, k ≠ w3.heap.size → w5.heap[k]? = w4.heap[k]? := (by rw [E9.out]; exact fun k hk => heap_cells _ _ _ _ k hk); have HB0 : Hid (Vr w5 w.heap.size (rv g p (.slice ao al.length ca) b (.slice co cl.length cc) S)) := HB0.out.heap (K9 _ (Nat.ne_of_lt LT_HB0_HP.out)); have Y0 : Hid (Byt w5 (.slice o0 8 c0) (be g 8)) := byt_nob Y0.out NB_HP.out K9; have Y1 : Hid (Byt w5 (.slice o1 8 c1) (be p 8)) := byt_nob Y1.out NB_HP.out K9; have Y3 : Hid (Byt w5 (.slice o3 8 c3) (be b 8)) := byt_nob Y3.out NB_HP.out K9; have Y4 : Hid (Byt w5 (.slice o4 8 c4) (List.replicate 8 0)) := byt_nob Y4.out NB_HP.out K9; have NB_HP : Hid (NoB w5 w3.heap.size) := (by rw [E9.out]; exact NB_HP.out.set HP.out rfl (pv_nob _ _ _ _ _ _ (slc_sl _ _ _) (slc_sl _ _ _) (slc_sl _ _ _) (slc_sl _ _ _) (slc_sl _ _ _) (slc_sl _ _ _))); have HP : Hid (Vr w5 w3.heap.size (pv (.slice o0 8 c0) (.slice o1 8 c1) (.slice ao al.length ca) (.slice o3 8 c3) (.slice o4 8 c4) (.slice co cl.length cc))) := ⟨R9, T9⟩; have BB : Hid (Below w.heap.size w w5) := BB.out.trans (B9.mono LE_HP.out); clear E9 R9 T9 B9 K9; clear t6; have t7 : (1 : Nat) = 1 := rfl)
    | (have q5 := t5; (with_reducible refine at_alloc ?_); refine new_lawN _ (pv nl nl nl nl nl nl) zero_parts (pv_nob _ _ _ _ _ _ nl_slc nl_slc nl_slc nl_slc nl_slc nl_slc) ?_; intro w4 X9 N9 B9; have LT_HB0_HP : Hid (w.heap.size < w3.heap.size) := range_lt HB0.out.1 (Nat.succ_pos _); have LE_HP : Hid (w.heap.size ≤ w3.heap.size) := BB.out.size; have HB0 : Hid (Vr w4 w.heap.size (rv g p (.slice ao al.length ca) b (.slice co cl.length cc) S)) := HB0.out.below B9 (range_lt HB0.out.1 (Nat.succ_pos _)); have Y0 : Hid (Byt w4 (.slice o0 8 c0) (be g 8)) := Y0.out.below B9; have Y1 : Hid (Byt w4 (.slice o1 8 c1) (be p 8)) := Y1.out.below B9; have Y3 : Hid (Byt w4 (.slice o3 8 c3) (be b 8)) := Y3.out.below B9; have Y4 : Hid (Byt w4 (.slice o4 8 c4) (List.replicate 8 0)) := Y4.out.below B9; have HP : Hid (Vr w4 w3.heap.size (pv nl nl nl nl nl nl)) := X9; have NB_HP : Hid (NoB w4 w3.heap.size) := N9; have BB : Hid (Below w.heap.size w w4) := BB.out.trans (B9.mono BB.out.size); clear X9 N9 B9; clear t5; have t6 : (1 : Nat) = 1 := rfl)
    | (have q4 := t4; go_at_call 27; refine (SP.out w2 BB.out).mono ?_; rintro e9 w3 ⟨o0, c0, o1, c1, o3, c3, o4, c4, rfl, y0, y1, y3, y4, B9⟩; have HB0 : Hid (Vr w3 w.heap.size (rv g p (.slice ao al.length ca) b (.slice co cl.length cc) S)) := HB0.out.below B9 (range_lt HB0.out.1 (Nat.succ_pos _)); have Y0 : Hid (Byt w3 (.slice o0 8 c0) (be g 8)) := y0; have Y1 : Hid (Byt w3 (.slice o1 8 c1) (be p 8)) := y1; have Y3 : Hid (Byt w3 (.slice o3 8 c3) (be b 8)) := y3; have Y4 : Hid (Byt w3 (.slice o4 8 c4) (List.replicate 8 0)) := y4; have BB : Hid (Below w.heap.size w w3) := BB.out.trans (B9.mono BB.out.size); clear B9 y0 y1 y3 y4; clear t4; have t5 : (1 : Nat) = 1 := rfl)
    | (have q3 := t3; refine load_lawC _ rfl (rv g p (.slice ao al.length ca) b (.slice co cl.length cc) S) w.heap.size 0 rfl HB0.out.1 rowy_record ?_; clear t3; have t4 : (1 : Nat) = 1 := rfl)
    | (have q2 := t2; go_at_call 11; refine (SR.out w1 BB.out).mono ?_; rintro e9 w2 ⟨rfl, B9⟩; have HB0 : Hid (Vr w2 w.heap.size (rv g p (.slice ao al.length ca) b (.slice co cl.length cc) S)) := HB0.out.below B9 (range_lt HB0.out.1 (Nat.succ_pos _)); have BB : Hid (Below w.heap.size w w2) := BB.out.trans (B9.mono BB.out.size); clear B9; clear t2; have t3 : (1 : Nat) = 1 := rfl)
    | (have q1 := t1; refine load_lawC _ rfl (rv g p (.slice ao al.length ca) b (.slice co cl.length cc) S) w.heap.size 0 rfl HB0.out.1 rowy_record ?_; clear t1; have t2 : (1 : Nat) = 1 := rfl)
    | (have q0 := t0; refine box_lawC _ (rv g p (.slice ao al.length ca) b (.slice co cl.length cc) S) rfl ?_; intro w1 X9 B9 l9; have HB0 : Hid (Vr w1 w.heap.size (rv g p (.slice ao al.length ca) b (.slice co cl.length cc) S)) := X9; have BB : Hid (Below w.heap.size w w1) := B9; clear X9 B9 l9; clear t0; have t1 : (1 : Nat) = 1 := rfl))
  clear SP SR HB0 HP HA HC LN LP Y0 Y1 Y3 Y4
  go_loopw [26, 7] (fun i r wr => ∃ k : Nat, k ≤ 4 ∧ i = .int .i64 (k : Int) ∧ Own w.heap.size wr r (txt g p al b cl S k) ∧ Below w.heap.size w wr) (fun i _ _ => 4 - (intOf i).toNat)
  case atStart => exact ⟨0, Nat.zero_le _, rfl, HO.out, BB.out⟩
  case round =>
    clear HO BB
    obtain ⟨k, hk4, rfl, o2, hBl⟩ := hrel
    have B0 : Hid (Below w.heap.size w wr) := hBl
    clear hBl
    by_cases hk : k < 4
    · have SL : Hid (Slc (S k).v) := SC.out k hk
      have TL : Hid ((txt g p al b cl S k).length = 80 + k * 128) := HT.out k (by omega)
      have SLn : Hid ((S k).d.bs.length = 128) := HSl.out k hk
      have ki : (k : Int) < 4 := by omega
      have O2 : Hid (Own w.heap.size wr u7 (txt g p al b cl S k)) := o2
      clear o2
      have t0 : (0 : Nat) = 0 := rfl
      go_wp2_with (first
        | (have q4 := t4; at_builtin; refine pushs_law _ rfl (.tmp 34) (.tmp 35) rfl w.heap.size (Nat.le_trans B0.out.size BB.out.size) _ _ (txt g p al b cl S k) (S k).d.bs rfl rfl (own_low O2.out BB.out) HW.out (by rw [TL.out, SLn.out]; omega) ?_; intro v3 w90 o3 B3; have O3 : Hid (Own w.heap.size w90 v3 (txt g p al b cl S (k + 1))) := o3; have BZ : Hid (Below w.heap.size w w90) := (B0.out.trans (BB.out.mono B0.out.size)).trans B3; clear o3 B3; clear t4; have t5 : (1 : Nat) = 1 := rfl)
        | (have q3 := t3; go_at_call 29; refine (SB.out k hk w42 (B0.out.trans (BB.out.mono B0.out.size))).mono ?_; rintro e9 w43 ⟨g9, rfl, Y9, B9⟩; have NB_HS : Hid (NoB w43 wr.heap.size) := NB_HS.out.heap (B9.block _ (range_lt HS.out.1 (Nat.succ_pos _))); have HS : Hid (Vr w43 wr.heap.size (S k).cs) := HS.out.below B9 (range_lt HS.out.1 (Nat.succ_pos _)); have HW : Hid (Byt w43 (.slice (some ⟨g9, 0, none⟩) 128 128) (S k).d.bs) := Y9; have BB : Hid (Below wr.heap.size wr w43) := BB.out.trans (B9.mono BB.out.size); clear hs_0 hs_1 hs_2 hs_3 hs_4; have hs_0 := HS.out.cell 0 _ rfl; have hs_1 := HS.out.cell 1 _ rfl; have hs_2 := HS.out.cell 2 _ rfl; have hs_3 := HS.out.cell 3 _ rfl; have hs_4 := HS.out.cell 4 _ rfl; clear B9 Y9; clear t3; have t4 : (1 : Nat) = 1 := rfl)
        | (have q2 := t2; (with_reducible refine at_store ?_); refine store_lawC _ (S k).cs wr.heap.size 0 rfl rfl HS.out.2 rowy_slot.2 (cs_one SL.out) ?_; intro w42 E9 R9 T9 B9; have K9 : ∀ k, k ≠ wr.heap.size → w42.heap[k]? = w41.heap[k]? := (by rw [E9.out]; exact fun k hk => heap_cells _ _ _ _ k hk); have NB_HS : Hid (NoB w42 wr.heap.size) := (by rw [E9.out]; exact NB_HS.out.set HS.out rfl (cs_nob SL.out)); have HS : Hid (Vr w42 wr.heap.size (S k).cs) := ⟨R9, T9⟩; have BB : Hid (Below wr.heap.size wr w42) := BB.out.trans (B9.mono LE_HS.out); have hs_0 := HS.out.cell 0 _ rfl; have hs_1 := HS.out.cell 1 _ rfl; have hs_2 := HS.out.cell 2 _ rfl; have hs_3 := HS.out.cell 3 _ rfl; have hs_4 := HS.out.cell 4 _ rfl; clear E9 R9 T9 B9 K9; clear t2; have t3 : (1 : Nat) = 1 := rfl)
        | (have q1 := t1; (with_reducible refine at_alloc ?_); refine new_lawN _ (sv false 0 0 0 (.slice none 0 0)) zero_slot (sv_nob _ _ _ _ _ _ _) ?_; intro w41 X9 N9 B9; have LE_HS : Hid (wr.heap.size ≤ wr.heap.size) := Nat.le_refl _; have HS : Hid (Vr w41 wr.heap.size (sv false 0 0 0 (.slice none 0 0))) := X9; have NB_HS : Hid (NoB w41 wr.heap.size) := N9; have BB : Hid (Below wr.heap.size wr w41) := B9; clear X9 N9 B9; clear t1; have t2 : (1 : Nat) = 1 := rfl)
        | (have q0 := t0; refine idx_law _ rfl (.tmp 25) (.tmp 26) 26 rfl (.agg (sls S).toArray) (.int .i64 (k : Int)) (.agg (S k).cs.toArray) rfl rfl (run_idx _ S k hk) ?_; clear t0; have t1 : (1 : Nat) = 1 := rfl))
      go_roundw
      case rel => exact ⟨k + 1, by omega, by go_num, O3.out, BZ.out⟩
      case measure => simp [intOf]; omega
    · have e4 : k = 4 := by omega
      subst e4
      have O2 : Hid (Own w.heap.size wr u7 TT) := (by rw [← EQ.out]; exact o2)
      clear o2 hk hk4 HT HSl SB SC
      have t0 : (0 : Nat) = 0 := rfl
      go_wp2_with (first
        | (have q1 := t1; at_builtin; refine pushs_law _ rfl (.tmp 38) (.tmp 41) rfl w.heap.size (Nat.le_trans B0.out.size BB.out.size) _ _ TT TG rfl rfl (own_low O2.out BB.out) HW.out TGL.out ?_; intro v3 w90 o3 B3; have O3 : Hid (Own w.heap.size w90 v3 (TT ++ TG)) := o3; have BZ : Hid (Below w.heap.size w w90) := (B0.out.trans (BB.out.mono B0.out.size)).trans B3; clear o3 B3; clear t1; have t2 : (1 : Nat) = 1 := rfl)
        | (have q0 := t0; go_at_call 30; refine (SM.out wr _ B0.out (O2.out.byt TA.out)).mono ?_; rintro e9 w41 ⟨g9, rfl, Y9, B9⟩; have HW : Hid (Byt w41 g9 TG) := Y9; have BB : Hid (Below wr.heap.size wr w41) := B9; clear B9 Y9; clear t0; have t1 : (1 : Nat) = 1 := rfl))
      go_ret2
      exact ⟨_, rfl, O3.out.byt (allB_app TA.out TGA.out), BZ.out⟩
end Go.Proofs.YtmbfccclghnaeaaDoor.re

/- What record's Fits answers. No claim of its own. -/
namespace Go.Proofs.YtmbfccclghnaeaaDoor.re
open Go.RowKit Go.Proofs.YtmbfccclghnaeaaDoor.fa Go.Proofs.YtmbfccclghnaeaaDoor.he Go.Proofs.YtmbfccclghnaeaaDoor.so
set_option maxRecDepth 20000

set_option maxHeartbeats 1000000 in
theorem fits_len (v kv : Value) (xs ks : List Int) (w : World) (hb : Byt w v xs) (hk : Byt w kv ks) (hl : xs.length ≠ 624) :
    Calls Tryd.prog 20 #[v, kv] w fun x w' => x = .returned (.bool false) ∧ Below w.heap.size w w' := by
  have n8 : ((xs.length : Int) == 624) = false := beq_eq_false_iff_ne.2 (by omega)
  have n9 : decide ((xs.length : Int) = 624) = false := decide_eq_false (by omega)
  obtain ⟨bo, bc, rfl⟩ := form hb
  obtain ⟨ko, kc, rfl⟩ := form hk
  clear hb hk hl
  go_enter Tryd.func20, Tryd.ntmps20
  go_wp2
  go_quiet (fail)
  go_wp2
  go_ret
  exact ⟨rfl, he.below_drawn (Below.refl _ _) _⟩

set_option maxHeartbeats 1000000 in
theorem fits_key (v kv : Value) (xs ks : List Int) (w : World) (hb : Byt w v xs) (hk : Byt w kv ks) (hl : xs.length = 624) (hn : ks.length ≠ 32) :
    Calls Tryd.prog 20 #[v, kv] w fun x w' => x = .returned (.bool false) ∧ Below w.heap.size w w' := by
  have n8 : ((ks.length : Int) == 32) = false := beq_eq_false_iff_ne.2 (by omega)
  have n9 : decide ((ks.length : Int) = 32) = false := decide_eq_false (by omega)
  obtain ⟨bo, bc, rfl⟩ := byt_form hb hl
  obtain ⟨ko, kc, rfl⟩ := form hk
  clear hb hk hl hn
  go_enter Tryd.func20, Tryd.ntmps20
  go_wp2
  go_quiet (fail)
  go_wp2
  go_ret
  exact ⟨rfl, he.below_drawn (Below.refl _ _) _⟩

set_option maxHeartbeats 2000000 in
theorem fits_any (v kv : Value) (xs ks : List Int) (w : World) (hb : Byt w v xs) (hk : Byt w kv ks) (hl : xs.length = 624) (hn : ks.length = 32) (D : Bool) (hD : decide (xs.drop 592 = mc.tagB (mc.blk ks) (xs.take 592)) = D) :
    Calls Tryd.prog 20 #[v, kv] w fun x w' => x = .returned (.bool D) ∧ Below w.heap.size w w' := by
  have HB : Hid (Byt w v xs) := hb
  have HL : Hid (xs.length = 624) := hl
  have HK : Hid (Byt w kv ks) := hk
  have HN : Hid (ks.length = 32) := hn
  have LX : Hid (592 ≤ xs.length) := (by show _ ≤ _; omega)
  have SM : Hid (∀ w0, Below w.heap.size w w0 → Calls Tryd.prog 43 #[kv, sl v 0 592, sl v 592 624] w0 fun x w' => x = .returned (.bool D) ∧ Below w0.heap.size w0 w') := fun w0 q => by
    have z := sl_from (hb.below q) 592 (by omega)
    rw [hl] at z
    rw [← hD]
    exact mc.mfits_any w0 kv (sl v 0 592) (sl v 592 624) ks (xs.take 592) (xs.drop 592) (hk.below q) (sl_to (hb.below q) 592 (by omega)) z (by omega) (by rw [List.length_take]; omega)
  obtain ⟨bo, bc, rfl⟩ := byt_form hb hl
  obtain ⟨ko, kc, rfl⟩ := byt_form hk hn
  clear hb hk hl hn hD
  go_enter Tryd.func20, Tryd.ntmps20
  go_wp2
  refine wp_region_held_drew (S := fun w' => Below w.heap.size w w') (by kernel_rfl) (Below.refl _ _).drew (fun hS => ?_)
  obtain ⟨x1, hx0⟩ : ∃ x, x = w.drew := ⟨_, rfl⟩
  rw [← hx0] at hS  ⊢
  clear hx0
  refine take_lawH 0 (some 5) (.slice bo 624 bc) rfl rfl (by kernel_rfl) (by kernel_rfl) (by kernel_rfl) (fun _ _ _ h => h) (Or.inl ⟨by rfl, fun w' hw' => by rfl⟩) hS ?_
  simp only [Act.put, List.setIfInBounds_toArray, List.set_cons_zero, List.set_cons_succ]
  refine take_lawH 1 (some 6) (.int .i64 624) rfl rfl (by kernel_rfl) (by kernel_rfl) (by kernel_rfl) (fun _ _ _ h => h) (Or.inl ⟨by rfl, fun w' hw' => by exact exec_len (.tmp 5) rfl _ xs _ HB.out 624 HL.out rfl _⟩) hS ?_
  simp only [Act.put, List.setIfInBounds_toArray, List.set_cons_zero, List.set_cons_succ]
  refine take_lawH 2 (some 7) (.bool true) rfl rfl (by kernel_rfl) (by kernel_rfl) (by kernel_rfl) (fun _ _ _ h => h) (Or.inl ⟨by rfl, fun w' hw' => by rfl⟩) hS ?_
  simp only [Act.put, List.setIfInBounds_toArray, List.set_cons_zero, List.set_cons_succ]
  refine take_lawH 3 (some 8) (.bool true) rfl rfl (by kernel_rfl) (by kernel_rfl) (by kernel_rfl) (fun _ _ _ h => h) (Or.inl ⟨by rfl, fun w' hw' => by rfl⟩) hS ?_
  simp only [Act.put, List.setIfInBounds_toArray, List.set_cons_zero, List.set_cons_succ]
  refine take_lawH 4 (some 9) (.slice ko 32 kc) rfl rfl (by kernel_rfl) (by kernel_rfl) (by kernel_rfl) (fun _ _ _ h => h) (Or.inl ⟨by rfl, fun w' hw' => by rfl⟩) hS ?_
  simp only [Act.put, List.setIfInBounds_toArray, List.set_cons_zero, List.set_cons_succ]
  refine take_lawH 5 (some 10) (.int .i64 32) rfl rfl (by kernel_rfl) (by kernel_rfl) (by kernel_rfl) (fun _ _ _ h => h) (Or.inl ⟨by rfl, fun w' hw' => by exact exec_len (.tmp 9) rfl _ ks _ HK.out 32 HN.out rfl _⟩) hS ?_
  simp only [Act.put, List.setIfInBounds_toArray, List.set_cons_zero, List.set_cons_succ]
  refine take_lawH 6 (some 11) (.bool true) rfl rfl (by kernel_rfl) (by kernel_rfl) (by kernel_rfl) (fun _ _ _ h => h) (Or.inl ⟨by rfl, fun w' hw' => by rfl⟩) hS ?_
  simp only [Act.put, List.setIfInBounds_toArray, List.set_cons_zero, List.set_cons_succ]
  refine take_lawH 7 (some 12) (.bool true) rfl rfl (by kernel_rfl) (by kernel_rfl) (by kernel_rfl) (fun _ _ _ h => h) (Or.inl ⟨by rfl, fun w' hw' => by rfl⟩) hS ?_
  simp only [Act.put, List.setIfInBounds_toArray, List.set_cons_zero, List.set_cons_succ]
  refine take_lawH 8 (some 13) (.bool true) rfl rfl (by kernel_rfl) (by kernel_rfl) (by kernel_rfl) (fun _ _ _ h => h) (Or.inl ⟨by rfl, fun w' hw' => by rfl⟩) hS ?_
  simp only [Act.put, List.setIfInBounds_toArray, List.set_cons_zero, List.set_cons_succ]
  refine take_lawH 9 (some 14) (.slice ko 32 kc) rfl rfl (by kernel_rfl) (by kernel_rfl) (by kernel_rfl) (fun _ _ _ h => h) (Or.inl ⟨by rfl, fun w' hw' => by rfl⟩) hS ?_
  simp only [Act.put, List.setIfInBounds_toArray, List.set_cons_zero, List.set_cons_succ]
  refine take_lawH 10 (some 15) (.slice bo 624 bc) rfl rfl (by kernel_rfl) (by kernel_rfl) (by kernel_rfl) (fun _ _ _ h => h) (Or.inl ⟨by rfl, fun w' hw' => by rfl⟩) hS ?_
  simp only [Act.put, List.setIfInBounds_toArray, List.set_cons_zero, List.set_cons_succ]
  refine take_lawH 11 (some 16) (sl (.slice bo 624 bc) 0 592) rfl rfl (by kernel_rfl) (by kernel_rfl) (by kernel_rfl) (fun _ _ _ h => h) (Or.inl ⟨by rfl, fun w' hw' => by exact exec_to (.tmp 15) (.const (.int .i64 592)) rfl _ xs _ HB.out 592 rfl rfl LX.out _⟩) hS ?_
  simp only [Act.put, List.setIfInBounds_toArray, List.set_cons_zero, List.set_cons_succ]
  refine take_lawH 12 (some 17) (.slice bo 624 bc) rfl rfl (by kernel_rfl) (by kernel_rfl) (by kernel_rfl) (fun _ _ _ h => h) (Or.inl ⟨by rfl, fun w' hw' => by rfl⟩) hS ?_
  simp only [Act.put, List.setIfInBounds_toArray, List.set_cons_zero, List.set_cons_succ]
  refine take_lawH 13 (some 18) (sl (.slice bo 624 bc) 592 624) rfl rfl (by kernel_rfl) (by kernel_rfl) (by kernel_rfl) (fun _ _ _ h => h) (Or.inl ⟨by rfl, fun w' hw' => by exact exec_from (.tmp 17) (.const (.int .i64 592)) rfl _ xs _ HB.out 592 624 rfl rfl HL.out (by omega) _⟩) hS ?_
  simp only [Act.put, List.setIfInBounds_toArray, List.set_cons_zero, List.set_cons_succ]
  refine wpAnyH_ready (rs := [14]) (by kernel_rfl) (by simp) ?_
  refine AllReadyH.cons rfl (fun K hK => ?_) AllReadyH.nil
  refine he.step_callW _ (by rfl) (some 19) rfl 43 #[.tmp 14, .tmp 16, .tmp 18] #[23, 23, 23] rfl (fun q w' => by rfl) #[.slice ko 32 kc, sl (.slice bo 624 bc) 0 592, sl (.slice bo 624 bc) 592 624] (by simp only [List.map_toArray, List.map_cons, List.map_nil]; rfl) (fun z9 w' => z9 = .bool D ∧ Below x1.heap.size x1 w') ?_ ?_
  · exact (SM.out x1 hS).mono fun e w' ⟨h1, h2⟩ => ⟨_, h1, rfl, h2⟩
  rintro _ x2 ⟨rfl, hb⟩
  have hS : Below w.heap.size w x2 := hS.trans (hb.mono hS.size)
  clear hb
  refine hK.out _ _ hS (fun _ => ?_)
  simp only [Act.put, List.setIfInBounds_toArray, List.set_cons_zero, List.set_cons_succ]
  clear hK K
  refine take_lawH 15 (some 20) (.bool D) rfl rfl (by kernel_rfl) (by kernel_rfl) (by kernel_rfl) (fun _ _ _ h => h) (Or.inl ⟨by rfl, fun w' hw' => by rfl⟩) hS ?_
  simp only [Act.put, List.setIfInBounds_toArray, List.set_cons_zero, List.set_cons_succ]
  refine take_lawH 16 (some 4) (.bool D) rfl rfl (by kernel_rfl) (by kernel_rfl) (by kernel_rfl) (fun _ _ _ h => h) (Or.inl ⟨by rfl, fun w' hw' => by rfl⟩) hS ?_
  simp only [Act.put, List.setIfInBounds_toArray, List.set_cons_zero, List.set_cons_succ]
  refine wpAnyH_done (by kernel_rfl) ?_ _
  have BZ : Hid (Below w.heap.size w _) := hS
  clear hS
  go_wp2
  go_ret
  exact ⟨rfl, BZ.out⟩
end Go.Proofs.YtmbfccclghnaeaaDoor.re

/- What the reference's Right and Same of records answer. No claim of its own. -/
namespace Go.Proofs.YtmbfccclghnaeaaDoor.re
open Go.RowKit Go.Proofs.YtmbfccclghnaeaaDoor.fa Go.Proofs.YtmbfccclghnaeaaDoor.he Go.Proofs.YtmbfccclghnaeaaDoor.so
set_option maxRecDepth 20000

set_option maxHeartbeats 4000000 in
theorem rright_a (g p b : Int) (a c : Value) (al cl : List Int) (S : Nat → Sc) (w : World) (hR : Rin w g p b a c al cl S) (h : al.length ≠ 16) :
    Calls Tryd.prog 12 #[.agg (rv g p a b c S).toArray] w fun x w' => x = .returned (.bool false) ∧ Below w.heap.size w w' := by
  have n16 : ((al.length : Int) == 16) = false := beq_eq_false_iff_ne.2 (by omega)
  clear h
  obtain ⟨ao, ca, rfl⟩ := form hR.2.1
  obtain ⟨co, cc, rfl⟩ := form hR.2.2.1
  clear hR
  have t0 : (0 : Nat) = 0 := rfl
  go_enter Tryd.func12, Tryd.ntmps12
  go_wp2_with (first
    | (have q0 := t0; refine box_lawC _ (rv g p (.slice ao al.length ca) b (.slice co cl.length cc) S) rfl ?_; intro w1 X9 B9 l9; have HB0 : Hid (Vr w1 w.heap.size (rv g p (.slice ao al.length ca) b (.slice co cl.length cc) S)) := X9; have BB : Hid (Below w.heap.size w w1) := B9; have hb0_2 := HB0.out.cell 2 _ rfl; have hb0_4 := HB0.out.cell 4 _ rfl; clear X9 B9 l9; clear t0; have t1 : (1 : Nat) = 1 := rfl))
  clear hb0_2 hb0_4
  go_loopw [4, 3] (fun i z wr => ∃ k : Nat, k ≤ 4 ∧ i = .int .i64 (k : Int) ∧ z = .bool false ∧ Below w.heap.size w wr) (fun i _ _ => 4 - (intOf i).toNat)
  case atStart => exact ⟨0, Nat.zero_le _, rfl, rfl, BB.out⟩
  case round =>
    clear HB0 BB
    obtain ⟨k, hk4, rfl, rfl, hBl⟩ := hrel
    by_cases hk : k < 4
    · have ki : (k : Int) < 4 := by omega
      go_wp2
      go_roundw
      case rel => exact ⟨k + 1, by omega, by go_num, rfl, hBl⟩
      case measure => simp [intOf]; omega
    · have e4 : k = 4 := by omega
      subst e4
      go_wp2
      go_ret
      exact ⟨rfl, hBl⟩

set_option maxHeartbeats 4000000 in
theorem rright_c (g p b : Int) (a c : Value) (al cl : List Int) (S : Nat → Sc) (w : World) (hR : Rin w g p b a c al cl S) (h : al.length = 16) (h2 : cl.length ≠ 32) :
    Calls Tryd.prog 12 #[.agg (rv g p a b c S).toArray] w fun x w' => x = .returned (.bool false) ∧ Below w.heap.size w w' := by
  have n16 : ((al.length : Int) == 16) = true := beq_iff_eq.2 (by omega)
  have n32 : ((cl.length : Int) == 32) = false := beq_eq_false_iff_ne.2 (by omega)
  clear h h2
  obtain ⟨ao, ca, rfl⟩ := form hR.2.1
  obtain ⟨co, cc, rfl⟩ := form hR.2.2.1
  clear hR
  have t0 : (0 : Nat) = 0 := rfl
  go_enter Tryd.func12, Tryd.ntmps12
  go_wp2_with (first
    | (have q0 := t0; refine box_lawC _ (rv g p (.slice ao al.length ca) b (.slice co cl.length cc) S) rfl ?_; intro w1 X9 B9 l9; have HB0 : Hid (Vr w1 w.heap.size (rv g p (.slice ao al.length ca) b (.slice co cl.length cc) S)) := X9; have BB : Hid (Below w.heap.size w w1) := B9; have hb0_2 := HB0.out.cell 2 _ rfl; have hb0_4 := HB0.out.cell 4 _ rfl; clear X9 B9 l9; clear t0; have t1 : (1 : Nat) = 1 := rfl))
  clear hb0_2 hb0_4
  go_loopw [4, 3] (fun i z wr => ∃ k : Nat, k ≤ 4 ∧ i = .int .i64 (k : Int) ∧ z = .bool false ∧ Below w.heap.size w wr) (fun i _ _ => 4 - (intOf i).toNat)
  case atStart => exact ⟨0, Nat.zero_le _, rfl, rfl, BB.out⟩
  case round =>
    clear HB0 BB
    obtain ⟨k, hk4, rfl, rfl, hBl⟩ := hrel
    by_cases hk : k < 4
    · have ki : (k : Int) < 4 := by omega
      go_wp2
      go_roundw
      case rel => exact ⟨k + 1, by omega, by go_num, rfl, hBl⟩
      case measure => simp [intOf]; omega
    · have e4 : k = 4 := by omega
      subst e4
      go_wp2
      go_ret
      exact ⟨rfl, hBl⟩

set_option maxHeartbeats 4000000 in
theorem rright_s (g p b : Int) (a c : Value) (al cl : List Int) (S : Nat → Sc) (w : World) (hR : Rin w g p b a c al cl S) (h : al.length = 16) (h2 : cl.length = 32) (B : Bool) (hB : (∀ k, k < 4 → (S k).d.ok) ↔ B = true) :
    Calls Tryd.prog 12 #[.agg (rv g p a b c S).toArray] w fun x w' => x = .returned (.bool B) ∧ Below w.heap.size w w' := by
  have SY : Hid (∀ k, k < 4 → (S k).d.ok → ∀ w0, Below w.heap.size w w0 → Calls Tryd.prog 34 #[.agg (S k).cs.toArray] w0 fun x w' => x = .returned (.bool true) ∧ Below w0.heap.size w0 w') := fun k hk h w0 q => so.rright_yes _ _ _ _ _ _ w0 ((hR.2.2.2 k hk).2.below q) h
  have SN : Hid (∀ k, k < 4 → ¬ (S k).d.ok → ∀ w0, Below w.heap.size w w0 → Calls Tryd.prog 34 #[.agg (S k).cs.toArray] w0 fun x w' => x = .returned (.bool false) ∧ Below w0.heap.size w0 w') := fun k hk h w0 q => so.rright_no _ _ _ _ _ _ w0 ((hR.2.2.2 k hk).2.below q) h
  have HB : Hid ((∀ k, k < 4 → (S k).d.ok) ↔ B = true) := hB
  have n16 : ((al.length : Int) == 16) = true := beq_iff_eq.2 (by omega)
  have n32 : ((cl.length : Int) == 32) = true := beq_iff_eq.2 (by omega)
  clear h h2 hB
  obtain ⟨ao, ca, rfl⟩ := form hR.2.1
  obtain ⟨co, cc, rfl⟩ := form hR.2.2.1
  clear hR
  have t0 : (0 : Nat) = 0 := rfl
  go_enter Tryd.func12, Tryd.ntmps12
  go_wp2_with (first
    | (have q0 := t0; refine box_lawC _ (rv g p (.slice ao al.length ca) b (.slice co cl.length cc) S) rfl ?_; intro w1 X9 B9 l9; have HB0 : Hid (Vr w1 w.heap.size (rv g p (.slice ao al.length ca) b (.slice co cl.length cc) S)) := X9; have BB : Hid (Below w.heap.size w w1) := B9; have hb0_2 := HB0.out.cell 2 _ rfl; have hb0_4 := HB0.out.cell 4 _ rfl; clear X9 B9 l9; clear t0; have t1 : (1 : Nat) = 1 := rfl))
  clear hb0_2 hb0_4
  go_loopw [4, 3] (fun i z wr => ∃ k : Nat, k ≤ 4 ∧ i = .int .i64 (k : Int) ∧ ((z = .bool true ∧ ∀ j, j < k → (S j).d.ok) ∨ (z = .bool false ∧ B = false)) ∧ Vr wr w.heap.size (rv g p (.slice ao al.length ca) b (.slice co cl.length cc) S) ∧ Below w.heap.size w wr) (fun i _ _ => 4 - (intOf i).toNat)
  case atStart => exact ⟨0, Nat.zero_le _, rfl, .inl ⟨rfl, upto_zero⟩, HB0.out, BB.out⟩
  case round =>
    clear HB0 BB
    obtain ⟨k, hk4, rfl, hz, hV, hBl⟩ := hrel
    have HB0 : Hid (Vr wr w.heap.size (rv g p (.slice ao al.length ca) b (.slice co cl.length cc) S)) := hV
    have BB : Hid (Below w.heap.size w wr) := hBl
    clear hV hBl
    rcases hz with ⟨rfl, ho⟩ | ⟨rfl, hf⟩
    · have HO : Hid (∀ j, j < k → (S j).d.ok) := ho
      clear ho
      by_cases hk : k < 4
      · have ki : (k : Int) < 4 := by omega
        by_cases hs : (S k).d.ok
        · have SK : Hid ((S k).d.ok) := hs
          clear hs
          have t0 : (0 : Nat) = 0 := rfl
          go_wp2_with (first
            | (have q1 := t1; go_at_call 34; refine (SY.out k hk SK.out wr BB.out).mono ?_; rintro e9 w41 ⟨rfl, B9⟩; have HB0 : Hid (Vr w41 w.heap.size (rv g p (.slice ao al.length ca) b (.slice co cl.length cc) S)) := HB0.out.below B9 (range_lt HB0.out.1 (Nat.succ_pos _)); have BB : Hid (Below w.heap.size w w41) := BB.out.trans (B9.mono BB.out.size); clear B9; clear t1; have t2 : (1 : Nat) = 1 := rfl)
            | (have q0 := t0; refine load_lawC _ rfl (S k).cs w.heap.size (5 + k * 5) rfl (Vr.slot HB0.out k hk) rowy_rslot ?_; clear t0; have t1 : (1 : Nat) = 1 := rfl))
          go_roundw
          case rel => exact ⟨k + 1, by omega, by go_num, .inl ⟨rfl, upto_succ HO.out SK.out⟩, HB0.out, BB.out⟩
          case measure => simp [intOf]; omega
        · have SK : Hid (¬ (S k).d.ok) := hs
          have hB : Hid (B = false) := (by
            show B = false
            cases hb : B
            · rfl
            · exact absurd (HB.out.2 hb k hk) hs)
          clear hs
          have t0 : (0 : Nat) = 0 := rfl
          go_wp2_with (first
            | (have q1 := t1; go_at_call 34; refine (SN.out k hk SK.out wr BB.out).mono ?_; rintro e9 w41 ⟨rfl, B9⟩; have HB0 : Hid (Vr w41 w.heap.size (rv g p (.slice ao al.length ca) b (.slice co cl.length cc) S)) := HB0.out.below B9 (range_lt HB0.out.1 (Nat.succ_pos _)); have BB : Hid (Below w.heap.size w w41) := BB.out.trans (B9.mono BB.out.size); clear B9; clear t1; have t2 : (1 : Nat) = 1 := rfl)
            | (have q0 := t0; refine load_lawC _ rfl (S k).cs w.heap.size (5 + k * 5) rfl (Vr.slot HB0.out k hk) rowy_rslot ?_; clear t0; have t1 : (1 : Nat) = 1 := rfl))
          go_roundw
          case rel => exact ⟨k + 1, by omega, by go_num, .inr ⟨rfl, hB.out⟩, HB0.out, BB.out⟩
          case measure => simp [intOf]; omega
      · have e4 : k = 4 := by omega
        subst e4
        have hB : B = true := HB.out.1 HO.out
        subst hB
        clear HB
        go_wp2
        go_ret
        exact ⟨rfl, BB.out⟩
    · subst hf
      clear HB
      by_cases hk : k < 4
      · have ki : (k : Int) < 4 := by omega
        go_wp2
        go_roundw
        case rel => exact ⟨k + 1, by omega, by go_num, .inr ⟨rfl, by trivial⟩, HB0.out, BB.out⟩
        case measure => simp [intOf]; omega
      · have e4 : k = 4 := by omega
        subst e4
        go_wp2
        go_ret
        exact ⟨rfl, BB.out⟩

theorem rright_any (g p b : Int) (a c : Value) (al cl : List Int) (S : Nat → Sc) (w : World) (hR : Rin w g p b a c al cl S) (B : Bool) (hB : Rok al cl S ↔ B = true) :
    Calls Tryd.prog 12 #[.agg (rv g p a b c S).toArray] w fun x w' => x = .returned (.bool B) ∧ Below w.heap.size w w' := by
  by_cases h : al.length = 16
  · by_cases h2 : cl.length = 32
    · exact rright_s g p b a c al cl S w hR h h2 B ⟨fun q => hB.1 ⟨h, h2, q⟩, fun q => (hB.2 q).2.2⟩
    · have : B = false := by
        cases hb : B
        · rfl
        · exact absurd (hB.2 hb).2.1 h2
      subst this
      exact rright_c g p b a c al cl S w hR h h2
  · have : B = false := by
      cases hb : B
      · rfl
      · exact absurd (hB.2 hb).1 h
    subst this
    exact rright_a g p b a c al cl S w hR h
theorem sc_same (s r : Sc) (w : World) (hd : s.d = r.d) (h1 : Byt w s.v s.xs) (h2 : Byt w r.v r.xs) : Calls Tryd.prog 35 #[.agg s.cs.toArray, .agg r.cs.toArray] w fun x w' => x = .returned (.bool true) ∧ Below w.heap.size w w' := by
  obtain ⟨u, n, e, t, v, xs⟩ := s
  obtain ⟨u', n', e', t', v', xs'⟩ := r
  have hd : Sl.mk u n e t xs = Sl.mk u' n' e' t' xs' := hd
  injection hd with a1 a2 a3 a4 a5
  subst a1 a2 a3 a4 a5
  exact so.rsame_yes u n e t v v' xs w h1 h2

set_option maxHeartbeats 4000000 in
theorem rsame_yes (g p b : Int) (a c a' c' : Value) (al cl : List Int) (S S' : Nat → Sc) (w : World) (hA : Byt w a al) (hA' : Byt w a' al) (hC : Byt w c cl) (hC' : Byt w c' cl) (hS : ∀ k, k < 4 → (S k).d = (S' k).d ∧ Byt w (S k).v (S k).xs ∧ Byt w (S' k).v (S' k).xs) :
    Calls Tryd.prog 14 #[.agg (rv g p a b c S).toArray, .agg (rv g p a' b c' S').toArray] w fun x w' => x = .returned (.bool true) ∧ Below w.heap.size w w' := by
  have SA : Hid (∀ w0, Below w.heap.size w w0 → Calls Tryd.prog 18 #[a, a'] w0 fun x w' => x = .returned (.bool true) ∧ Below w0.heap.size w0 w') := fun w0 q => so.same_yes w0 a a' al (hA.below q) (hA'.below q)
  have SC : Hid (∀ w0, Below w.heap.size w w0 → Calls Tryd.prog 18 #[c, c'] w0 fun x w' => x = .returned (.bool true) ∧ Below w0.heap.size w0 w') := fun w0 q => so.same_yes w0 c c' cl (hC.below q) (hC'.below q)
  have SS : Hid (∀ k, k < 4 → ∀ w0, Below w.heap.size w w0 → Calls Tryd.prog 35 #[.agg (S k).cs.toArray, .agg (S' k).cs.toArray] w0 fun x w' => x = .returned (.bool true) ∧ Below w0.heap.size w0 w') := fun k hk w0 q => sc_same _ _ w0 (hS k hk).1 ((hS k hk).2.1.below q) ((hS k hk).2.2.below q)
  obtain ⟨ao, ca, rfl⟩ := form hA
  obtain ⟨co, cc, rfl⟩ := form hC
  obtain ⟨ao2, ca2, rfl⟩ := form hA'
  obtain ⟨co2, cc2, rfl⟩ := form hC'
  clear hA hC hA' hC' hS
  have t0 : (0 : Nat) = 0 := rfl
  go_enter Tryd.func14, Tryd.ntmps14
  go_wp2_with (first
    | (have q3 := t3; go_at_call 18; refine (SC.out w3 BB.out).mono ?_; rintro e9 w4 ⟨rfl, B9⟩; have HB0 : Hid (Vr w4 w.heap.size (rv g p (.slice ao al.length ca) b (.slice co cl.length cc) S)) := HB0.out.below B9 (range_lt HB0.out.1 (Nat.succ_pos _)); have HB1 : Hid (Vr w4 w1.heap.size (rv g p (.slice ao2 al.length ca2) b (.slice co2 cl.length cc2) S')) := HB1.out.below B9 (range_lt HB1.out.1 (Nat.succ_pos _)); have BB : Hid (Below w.heap.size w w4) := BB.out.trans (B9.mono BB.out.size); clear hb0_0 hb0_1 hb0_2 hb0_3 hb0_4 hb1_0 hb1_1 hb1_2 hb1_3 hb1_4; have hb0_0 := HB0.out.cell 0 _ rfl; have hb0_1 := HB0.out.cell 1 _ rfl; have hb0_2 := HB0.out.cell 2 _ rfl; have hb0_3 := HB0.out.cell 3 _ rfl; have hb0_4 := HB0.out.cell 4 _ rfl; have hb1_0 := HB1.out.cell 0 _ rfl; have hb1_1 := HB1.out.cell 1 _ rfl; have hb1_2 := HB1.out.cell 2 _ rfl; have hb1_3 := HB1.out.cell 3 _ rfl; have hb1_4 := HB1.out.cell 4 _ rfl; clear B9; clear t3; have t4 : (1 : Nat) = 1 := rfl)
    | (have q2 := t2; go_at_call 18; refine (SA.out w2 BB.out).mono ?_; rintro e9 w3 ⟨rfl, B9⟩; have HB0 : Hid (Vr w3 w.heap.size (rv g p (.slice ao al.length ca) b (.slice co cl.length cc) S)) := HB0.out.below B9 (range_lt HB0.out.1 (Nat.succ_pos _)); have HB1 : Hid (Vr w3 w1.heap.size (rv g p (.slice ao2 al.length ca2) b (.slice co2 cl.length cc2) S')) := HB1.out.below B9 (range_lt HB1.out.1 (Nat.succ_pos _)); have BB : Hid (Below w.heap.size w w3) := BB.out.trans (B9.mono BB.out.size); clear hb0_0 hb0_1 hb0_2 hb0_3 hb0_4 hb1_0 hb1_1 hb1_2 hb1_3 hb1_4; have hb0_0 := HB0.out.cell 0 _ rfl; have hb0_1 := HB0.out.cell 1 _ rfl; have hb0_2 := HB0.out.cell 2 _ rfl; have hb0_3 := HB0.out.cell 3 _ rfl; have hb0_4 := HB0.out.cell 4 _ rfl; have hb1_0 := HB1.out.cell 0 _ rfl; have hb1_1 := HB1.out.cell 1 _ rfl; have hb1_2 := HB1.out.cell 2 _ rfl; have hb1_3 := HB1.out.cell 3 _ rfl; have hb1_4 := HB1.out.cell 4 _ rfl; clear B9; clear t2; have t3 : (1 : Nat) = 1 := rfl)
    | (have q1 := t1; refine box_lawC _ (rv g p (.slice ao2 al.length ca2) b (.slice co2 cl.length cc2) S') rfl ?_; intro w2 X9 B9 l9; have HB0 : Hid (Vr w2 w.heap.size (rv g p (.slice ao al.length ca) b (.slice co cl.length cc) S)) := HB0.out.below B9 (range_lt HB0.out.1 (Nat.succ_pos _)); have HB1 : Hid (Vr w2 w1.heap.size (rv g p (.slice ao2 al.length ca2) b (.slice co2 cl.length cc2) S')) := X9; have BB : Hid (Below w.heap.size w w2) := BB.out.trans (B9.mono BB.out.size); have hb0_0 := HB0.out.cell 0 _ rfl; have hb0_1 := HB0.out.cell 1 _ rfl; have hb0_2 := HB0.out.cell 2 _ rfl; have hb0_3 := HB0.out.cell 3 _ rfl; have hb0_4 := HB0.out.cell 4 _ rfl; have hb1_0 := HB1.out.cell 0 _ rfl; have hb1_1 := HB1.out.cell 1 _ rfl; have hb1_2 := HB1.out.cell 2 _ rfl; have hb1_3 := HB1.out.cell 3 _ rfl; have hb1_4 := HB1.out.cell 4 _ rfl; clear X9 B9 l9; clear t1; have t2 : (1 : Nat) = 1 := rfl)
    | (have q0 := t0; refine box_lawC _ (rv g p (.slice ao al.length ca) b (.slice co cl.length cc) S) rfl ?_; intro w1 X9 B9 l9; have HB0 : Hid (Vr w1 w.heap.size (rv g p (.slice ao al.length ca) b (.slice co cl.length cc) S)) := X9; have BB : Hid (Below w.heap.size w w1) := B9; clear X9 B9 l9; clear t0; have t1 : (1 : Nat) = 1 := rfl))
  clear hb0_0 hb0_1 hb0_2 hb0_3 hb0_4 hb1_0 hb1_1 hb1_2 hb1_3 hb1_4
  go_loopw [6, 5] (fun i z wr => ∃ k : Nat, k ≤ 4 ∧ i = .int .i64 (k : Int) ∧ z = .bool true ∧ Vr wr w.heap.size (rv g p (.slice ao al.length ca) b (.slice co cl.length cc) S) ∧ Vr wr w1.heap.size (rv g p (.slice ao2 al.length ca2) b (.slice co2 cl.length cc2) S') ∧ Below w.heap.size w wr) (fun i _ _ => 4 - (intOf i).toNat)
  case atStart => exact ⟨0, Nat.zero_le _, rfl, rfl, HB0.out, HB1.out, BB.out⟩
  case round =>
    clear HB0 HB1 BB
    obtain ⟨k, hk4, rfl, rfl, hv, hv1, hBl⟩ := hrel
    have HB0 : Hid (Vr wr w.heap.size (rv g p (.slice ao al.length ca) b (.slice co cl.length cc) S)) := hv
    have HB1 : Hid (Vr wr w1.heap.size (rv g p (.slice ao2 al.length ca2) b (.slice co2 cl.length cc2) S')) := hv1
    have BB : Hid (Below w.heap.size w wr) := hBl
    clear hv hv1 hBl
    by_cases hk : k < 4
    · have ki : (k : Int) < 4 := by omega
      go_wp2
      refine wp_region_held_drew (S := fun w' => Below wr.heap.size wr w') (by kernel_rfl) (Below.refl _ _).drew (fun hS => ?_)
      obtain ⟨x1, hx0⟩ : ∃ x, x = wr.drew := ⟨_, rfl⟩
      rw [← hx0] at hS  ⊢
      clear hx0
      refine take_lawH 0 (some 44) (.bool true) rfl rfl (by kernel_rfl) (by kernel_rfl) (by kernel_rfl) (fun _ _ _ h => h) (Or.inl ⟨by rfl, fun w' hw' => by rfl⟩) hS ?_
      simp only [Act.put, List.setIfInBounds_toArray, List.set_cons_zero, List.set_cons_succ]
      refine take_lawH 1 (some 45) (.bool true) rfl rfl (by kernel_rfl) (by kernel_rfl) (by kernel_rfl) (fun _ _ _ h => h) (Or.inl ⟨by rfl, fun w' hw' => by rfl⟩) hS ?_
      simp only [Act.put, List.setIfInBounds_toArray, List.set_cons_zero, List.set_cons_succ]
      refine take_lawH 2 (some 46) (.int .i64 (k : Int)) rfl rfl (by kernel_rfl) (by kernel_rfl) (by kernel_rfl) (fun _ _ _ h => h) (Or.inl ⟨by rfl, fun w' hw' => by rfl⟩) hS ?_
      simp only [Act.put, List.setIfInBounds_toArray, List.set_cons_zero, List.set_cons_succ]
      refine take_lawH 3 (some 47) (.pointer (some ⟨w.heap.size, 5, none⟩)) rfl rfl (by kernel_rfl) (by kernel_rfl) (by kernel_rfl) (fun _ _ _ h => h) (Or.inl ⟨by rfl, fun w' hw' => by go_simp⟩) hS ?_
      simp only [Act.put, List.setIfInBounds_toArray, List.set_cons_zero, List.set_cons_succ]
      refine take_lawH 4 (some 48) (.pointer (some ⟨w.heap.size, 5 + k * 5, none⟩)) rfl rfl (by kernel_rfl) (by kernel_rfl) (by kernel_rfl) (fun _ _ _ h => h) (Or.inl ⟨by rfl, fun w' hw' => by go_simp⟩) hS ?_
      simp only [Act.put, List.setIfInBounds_toArray, List.set_cons_zero, List.set_cons_succ]
      refine take_lawH 5 (some 49) (.agg (S k).cs.toArray) rfl rfl (by kernel_rfl) (by kernel_rfl) (by kernel_rfl) (fun _ _ _ h => h) (Or.inl ⟨by rfl, fun w' hw' => by exact exec_loadN 36 (.tmp 48) rfl _ rfl _ _ (load_cells rowy_rslot (Vr.slot (HB0.out.below hw' (range_lt HB0.out.1 (Nat.succ_pos _))) k hk))⟩) hS ?_
      simp only [Act.put, List.setIfInBounds_toArray, List.set_cons_zero, List.set_cons_succ]
      refine take_lawH 6 (some 50) (.int .i64 (k : Int)) rfl rfl (by kernel_rfl) (by kernel_rfl) (by kernel_rfl) (fun _ _ _ h => h) (Or.inl ⟨by rfl, fun w' hw' => by rfl⟩) hS ?_
      simp only [Act.put, List.setIfInBounds_toArray, List.set_cons_zero, List.set_cons_succ]
      refine take_lawH 7 (some 51) (.pointer (some ⟨w1.heap.size, 5, none⟩)) rfl rfl (by kernel_rfl) (by kernel_rfl) (by kernel_rfl) (fun _ _ _ h => h) (Or.inl ⟨by rfl, fun w' hw' => by go_simp⟩) hS ?_
      simp only [Act.put, List.setIfInBounds_toArray, List.set_cons_zero, List.set_cons_succ]
      refine take_lawH 8 (some 52) (.pointer (some ⟨w1.heap.size, 5 + k * 5, none⟩)) rfl rfl (by kernel_rfl) (by kernel_rfl) (by kernel_rfl) (fun _ _ _ h => h) (Or.inl ⟨by rfl, fun w' hw' => by go_simp⟩) hS ?_
      simp only [Act.put, List.setIfInBounds_toArray, List.set_cons_zero, List.set_cons_succ]
      refine take_lawH 9 (some 53) (.agg (S' k).cs.toArray) rfl rfl (by kernel_rfl) (by kernel_rfl) (by kernel_rfl) (fun _ _ _ h => h) (Or.inl ⟨by rfl, fun w' hw' => by exact exec_loadN 36 (.tmp 52) rfl _ rfl _ _ (load_cells rowy_rslot (Vr.slot (HB1.out.below hw' (range_lt HB1.out.1 (Nat.succ_pos _))) k hk))⟩) hS ?_
      simp only [Act.put, List.setIfInBounds_toArray, List.set_cons_zero, List.set_cons_succ]
      refine wpAnyH_ready (rs := [10]) (by kernel_rfl) (by simp) ?_
      refine AllReadyH.cons rfl (fun K hK => ?_) AllReadyH.nil
      refine he.step_callW _ (by rfl) (some 54) rfl 35 #[.tmp 49, .tmp 53] #[36, 36] rfl (fun q w' => by rfl) #[.agg (S k).cs.toArray, .agg (S' k).cs.toArray] (by simp only [List.map_toArray, List.map_cons, List.map_nil]; rfl) (fun z9 w' => z9 = .bool true ∧ Below x1.heap.size x1 w') ?_ ?_
      · exact (SS.out k hk x1 (BB.out.trans (hS.mono BB.out.size))).mono fun e w' ⟨h1, h2⟩ => ⟨_, h1, rfl, h2⟩
      rintro _ x2 ⟨rfl, hb⟩
      have hS : Below wr.heap.size wr x2 := hS.trans (hb.mono hS.size)
      clear hb
      refine hK.out _ _ hS (fun _ => ?_)
      simp only [Act.put, List.setIfInBounds_toArray, List.set_cons_zero, List.set_cons_succ]
      clear hK K
      refine take_lawH 11 (some 55) (.bool true) rfl rfl (by kernel_rfl) (by kernel_rfl) (by kernel_rfl) (fun _ _ _ h => h) (Or.inl ⟨by rfl, fun w' hw' => by rfl⟩) hS ?_
      simp only [Act.put, List.setIfInBounds_toArray, List.set_cons_zero, List.set_cons_succ]
      refine take_lawH 12 (some 5) (.bool true) rfl rfl (by kernel_rfl) (by kernel_rfl) (by kernel_rfl) (fun _ _ _ h => h) (Or.inl ⟨by rfl, fun w' hw' => by rfl⟩) hS ?_
      simp only [Act.put, List.setIfInBounds_toArray, List.set_cons_zero, List.set_cons_succ]
      refine wpAnyH_done (by kernel_rfl) ?_ _
      have HB0 : Hid (Vr x2 w.heap.size (rv g p (.slice ao al.length ca) b (.slice co cl.length cc) S)) := HB0.out.below hS (range_lt HB0.out.1 (Nat.succ_pos _))
      have HB1 : Hid (Vr x2 w1.heap.size (rv g p (.slice ao2 al.length ca2) b (.slice co2 cl.length cc2) S')) := HB1.out.below hS (range_lt HB1.out.1 (Nat.succ_pos _))
      have BZ : Hid (Below w.heap.size w x2) := BB.out.trans (hS.mono BB.out.size)
      clear hS
      go_wp2
      go_roundw
      case rel => exact ⟨k + 1, by omega, by go_num, rfl, HB0.out, HB1.out, BZ.out⟩
      case measure => simp [intOf]; omega
    · have e4 : k = 4 := by omega
      subst e4
      go_wp2
      go_ret
      exact ⟨rfl, BB.out⟩
/-- two records with the same data are the same -/
theorem rsame_rb (g p b : Int) (a c a' c' : Value) (al cl : List Int) (S S' : Nat → Sc) (w : World) (h : Rb w a c al cl S) (h' : Rb w a' c' al cl S') (hd : ∀ k, k < 4 → (S k).d = (S' k).d) :
    Calls Tryd.prog 14 #[.agg (rv g p a b c S).toArray, .agg (rv g p a' b c' S').toArray] w fun x w' => x = .returned (.bool true) ∧ Below w.heap.size w w' :=
  re.rsame_yes g p b a c a' c' al cl S S' w h.1 h'.1 h.2.1 h'.2.1 fun k hk => ⟨hd k hk, h.2.2 k hk, h'.2.2 k hk⟩
theorem of_rb (g p b : Int) (a c : Value) (al cl : List Int) (S : Nat → Sc) (w : World) (h : Rb w a c al cl S) :
    Calls Tryd.prog 13 #[.agg (rv g p a b c S).toArray] w fun x w' => x = .returned (.agg (rv g p a b c S).toArray) ∧ Below w.heap.size w w' :=
  re.of_any g p b a c al cl S w h.1 h.2.1 h.slc
end Go.Proofs.YtmbfccclghnaeaaDoor.re

/- What derive's blocks are, as lists; a copy of a slice; a slice of two slices. No claim of its own. -/
namespace Go.Proofs.YtmbfccclghnaeaaDoor.mc
open Go.RowKit
set_option maxRecDepth 20000

/-- the k-th tag behind t -/
def tg (bl t : List Int) : Nat → List Int
  | 0 => t
  | k + 1 => tagB bl (tg bl t k)
/-- the first k + 1 of them, xored -/
def sm (bl t : List Int) : Nat → List Int
  | 0 => t
  | k + 1 => xorl (sm bl t k) (tg bl t (k + 1))
theorem tg_len (bl t : List Int) (h : t.length = 32) (k : Nat) : (tg bl t k).length = 32 := by
  cases k with
  | zero => exact h
  | succ k => exact tagB_len _ _
theorem tg_all (bl t : List Int) (h : AllB t) (k : Nat) : AllB (tg bl t k) := by
  cases k with
  | zero => exact h
  | succ k => exact tagB_all _ _
theorem sm_len (bl t : List Int) (h : t.length = 32) (k : Nat) : (sm bl t k).length = 32 := by
  induction k with
  | zero => exact h
  | succ k ih => exact (xorl_len _ _ (by rw [ih, tg_len bl t h])).trans ih
theorem sm_all (bl t : List Int) (h : t.length = 32) (ha : AllB t) (k : Nat) : AllB (sm bl t k) := by
  induction k with
  | zero => exact ha
  | succ k ih => exact xorl_all _ _ (by rw [sm_len bl t h, tg_len bl t h]) ih (tg_all bl t ha _)
/-- the first tag of block i -/
def u1 (bl ss : List Int) (i : Nat) : List Int := tagB bl (ss ++ be4 (i : Int))
theorem u1_len (bl ss : List Int) (i : Nat) : (u1 bl ss i).length = 32 := tagB_len _ _
theorem u1_all (bl ss : List Int) (i : Nat) : AllB (u1 bl ss i) := tagB_all _ _
/-- block i, with c rounds -/
def dblk (bl ss : List Int) (c i : Nat) : List Int := sm bl (u1 bl ss i) (c - 1)
theorem dblk_len (bl ss : List Int) (c i : Nat) : (dblk bl ss c i).length = 32 := sm_len _ _ (tagB_len _ _) _
theorem dblk_all (bl ss : List Int) (c i : Nat) : AllB (dblk bl ss c i) := sm_all _ _ (tagB_len _ _) (tagB_all _ _) _
/-- the first k blocks, one behind the other -/
def cat (f : Nat → List Int) : Nat → List Int
  | 0 => []
  | k + 1 => cat f k ++ f (k + 1)
theorem cat_len (f : Nat → List Int) (h : ∀ i, (f i).length = 32) (k : Nat) : (cat f k).length = 32 * k := by
  induction k with
  | zero => rfl
  | succ k ih => simp [cat, ih, h]; omega
theorem cat_all (f : Nat → List Int) (h : ∀ i, AllB (f i)) (k : Nat) : AllB (cat f k) := by
  induction k with
  | zero => exact allB_mem (by simp [cat])
  | succ k ih => exact allB_append ih (h _)
/-- n noughts, of which the first k blocks are laid -/
def oat (f : Nat → List Int) (n k : Nat) : List Int := (cat f k).take n ++ List.replicate (n - 32 * k) 0
theorem oat_zero (f : Nat → List Int) (n : Nat) : oat f n 0 = List.replicate n 0 := by simp [oat, cat]
theorem oat_len (f : Nat → List Int) (h : ∀ i, (f i).length = 32) (n k : Nat) : (oat f n k).length = n := by
  simp [oat, cat_len f h]; omega
theorem oat_end (f : Nat → List Int) (n k : Nat) (hk : n ≤ 32 * k) : oat f n k = (cat f k).take n := by
  simp [oat, show n - 32 * k = 0 by omega]
theorem oat_lay (f : Nat → List Int) (h : ∀ i, (f i).length = 32) (n k : Nat) (hk : 32 * k < n) : laid (oat f n k) (32 * k) ((f (k + 1)).take (n - 32 * k)) = oat f n (k + 1) := by
  have hc := cat_len f h k
  unfold laid oat
  rw [List.take_of_length_le (by omega : (cat f k).length ≤ n)]
  have e1 : (cat f k ++ List.replicate (n - 32 * k) (0 : Int)).take (32 * k) = cat f k := by
    rw [List.take_append_of_le_length (by omega), List.take_of_length_le (by omega)]
  have e2 : (cat f k ++ List.replicate (n - 32 * k) (0 : Int)).drop (32 * k + ((f (k + 1)).take (n - 32 * k)).length) = List.replicate (n - 32 * (k + 1)) 0 := by
    rw [List.drop_append, List.drop_of_length_le (by rw [hc]; omega), List.nil_append, List.drop_replicate, hc, List.length_take, h]
    congr 1
    omega
  have e3 : (cat f (k + 1)).take n = cat f k ++ (f (k + 1)).take (n - 32 * k) := by
    show (cat f k ++ f (k + 1)).take n = _
    rw [List.take_append, List.take_of_length_le (by omega), hc]
  rw [e1, e2, e3]

theorem _root_.Go.Proofs.YtmbfccclghnaeaaDoor.Own.ar {B : Nat} {w : World} {v : Value} {xs : List Int} (h : Own B w v xs) (hp : 0 < xs.length) : ∃ g cap, v = .slice (some ⟨g, 0, none⟩) xs.length cap ∧ B ≤ g ∧ xs.length ≤ cap ∧ cap ≤ 9223372036854775807 ∧ Ar w g 0 .u8 xs := by
  have hh := h
  rcases h.2 with ⟨rfl, hn⟩ | ⟨g, cap, cur, rfl, hg, hb, hc, hm, hs, ht⟩
  · omega
  · refine ⟨g, cap, rfl, hg, hc, by simpa [maxLen] using hm, Ar.mk fun i hi => ?_⟩
    have hcell := World.ownsRow.cells hh (g := g) rfl i (.int .u8 (gb xs i)) (by simp [gb, List.getD, hi])
    rw [Addr.add_lit] at hcell
    refine ⟨by simpa using hcell, ?_⟩
    have := World.ownsRow.frozenAt hh i
    rw [Nat.zero_add]
    exact this

set_option maxHeartbeats 1000000 in
theorem clone_any (w : World) (ad : Addr) (n cap : Nat) (xs : List Int) (h : Byt w (.slice (some ad) n cap) xs) (hl : xs.length ≤ 1000000) :
    Calls Tryd.prog 74 #[.slice (some ad) n cap] w fun e w' => ∃ v', e = .returned v' ∧ Own w.heap.size w' v' xs ∧ Below w.heap.size w w' := by
  have HV : Hid (Byt (w.alloc (.cells #[] 5)) (.slice (some ad) n cap) xs) := h.below ((Below.refl _ _).alloc (Nat.le_refl _) _)
  have HO : Hid (Own w.heap.size (w.alloc (.cells #[] 5)) (.slice (some ⟨w.heap.size, 0, none⟩) 0 0) []) := Own.empty w (Nat.le_refl _)
  have B0 : Below w.heap.size w (w.alloc (.cells #[] 5)) := (Below.refl _ _).alloc (Nat.le_refl _) _
  have z0 := B0.size
  have qn : ∀ w : World, (binOp .eql 23 (.slice (some ad) n cap) (.slice none 0 0)).run Tryd.prog w = .ok (.bool false) w := fun w => Lib.run_eql_slice_nil w _ _ (some ad) n cap 0 0 Tryd.underlying23
  clear h
  go_enter Tryd.func74, Tryd.ntmps74
  go_wp2_with (refine pushs_law _ rfl (.tmp 5) (.tmp 6) rfl w.heap.size z0 _ _ [] xs rfl rfl HO.out HV.out (by simp) (by omega) ?_; intro v1 w1 O1 b1; rw [List.nil_append] at O1; have HO1 : Hid (Own w.heap.size w1 v1 xs) := O1; clear O1; have c1 : Below w.heap.size w w1 := B0.trans b1)
  go_ret
  exact ⟨_, rfl, HO1.out, c1⟩

theorem cell_new2 (w : World) (x y : Value) (t : TypeId) : (w.alloc (.cells #[x, y] t)).cell? ⟨w.heap.size, 0, none⟩ = some x ∧ (w.alloc (.cells #[x, y] t)).cell? ⟨w.heap.size, 1, none⟩ = some y := by
  constructor
  · rw [cell_of_row (w.alloc (.cells #[x, y] t)) w.heap.size 0 _ t (0, 0) (heap_alloc_last w _)]; rfl
  · rw [cell_of_row (w.alloc (.cells #[x, y] t)) w.heap.size 1 _ t (0, 0) (heap_alloc_last w _)]; rfl
/-- a slice of two slices of bytes -/
theorem bts_two {w : World} {u v : Value} {ts ss : List Int} (h : Byt w u ts) (hv : Byt w v ss) (hl : ts.length ≤ 1000000) (hl2 : ss.length ≤ 1000000) : Bts (w.alloc (.cells #[u, v] 23)) (.slice (some ⟨w.heap.size, 0, none⟩) 2 2) [ts, ss] := by
  have hb : Below w.heap.size w (w.alloc (.cells #[u, v] 23)) := (Below.refl _ _).alloc (Nat.le_refl _) _
  refine ⟨_, _, rfl, by simp, by simp, fun _ => ⟨w.heap.size, 0, rfl, fun r hr => ?_⟩, fun r => ?_⟩
  · match r, hr with
    | 0, _ => exact ⟨u, (cell_new2 w u v 23).1, h.below hb⟩
    | 1, _ => exact ⟨v, (cell_new2 w u v 23).2, hv.below hb⟩
    | r + 2, hr => simp at hr; omega
  · match r with
    | 0 => simp [List.getD]; omega
    | 1 => simp [List.getD]; omega
    | r + 2 => simp [List.getD]

section
variable {ops : Array Oper} {rest : List Oper} {o : Oper} {a : Act} {Q : Exit → Act → World → Prop}
/-- '[][]byte{u, v}', the world gets a name -/
theorem two_law (w : World) (hg : o.guard = none) (x y : Operand) (hop : o.op = Op.buildSlice 62 2 #[(0, x), (1, y)]) (uo vo : Option Addr) (n uc m vc : Nat) (ts ss : List Int) (hx : a.eval x = .slice uo n uc) (hy : a.eval y = .slice vo m vc) (h : Byt w (.slice uo n uc) ts) (hv : Byt w (.slice vo m vc) ss) (hl : ts.length ≤ 1000000) (hl2 : ss.length ≤ 1000000)
    (hK : ∀ w', Bts w' (.slice (some ⟨w.heap.size, 0, none⟩) 2 2) [ts, ss] → Below w.heap.size w w' → wpList Tryd.prog ops Q rest (a.put o.dst (.slice (some ⟨w.heap.size, 0, none⟩) 2 2)) w') : wpList Tryd.prog ops Q (o :: rest) a w := by
  refine wpList_plain hg fun K hK' => ?_
  have hrun : (Instr.buildSlice 62 2 #[(0, .slice uo n uc), (1, .slice vo m vc)]).run Tryd.prog w = .ok (.slice (some ⟨w.heap.size, 0, none⟩) 2 2) (w.alloc (.cells #[.slice uo n uc, .slice vo m vc] 23)) := by kernel_rfl
  unfold Oper.wp execOp
  simp only [hop, List.map_toArray, List.map_cons, List.map_nil, hx, hy, Sem.run_bind, Sem.run_pure, Result.andThen_ok, hrun]
  exact hK' _ _ (hK _ (bts_two h hv hl hl2) ((Below.refl _ _).alloc (Nat.le_refl _) _))
end
end Go.Proofs.YtmbfccclghnaeaaDoor.mc

