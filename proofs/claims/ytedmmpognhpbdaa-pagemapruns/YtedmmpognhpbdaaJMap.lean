/- The places' counts as a map in memory: looked up, written, taken out. No claim of its own. -/
import Derived.Test.YtedmmpognhpbdaaJBas
import Derived.WideKeyEntry
namespace Go.Proofs.Ytedmmpognhpbdaa.pm
open Go.RowKit Go.Proofs.Ytedmmpognhpbdaa.he Go.MapKept Go.WideElems
set_option maxRecDepth 20000

abbrev pk (p : Int × Int) : Value := .agg #[.int .i64 p.1, .int .i64 p.2]
theorem pk_inj {p q : Int × Int} (h : pk p = pk q) : p = q := by
  obtain ⟨a, b⟩ := p
  obtain ⟨c, d⟩ := q
  simp at h
  rw [h.1, h.2]
theorem run_equal (p q : Int × Int) (w : World) : (Op.equal 31 (pk p) (pk q)).run Try.prog w = .ok (decide (p = q)) w := by
  have u3 := Try.underlying3
  have hS : Try.prog.underlying 31 = some (.struct (Try.prog.fieldsOf 31)) := by kernel_rfl
  have hp : Try.prog.stoodInHeld 31 = false := by kernel_rfl
  have e : decide (p = q) = (p.1 == q.1 && p.2 == q.2) := by
    obtain ⟨a, b⟩ := p
    obtain ⟨c, d⟩ := q
    by_cases h1 : a = c <;> by_cases h2 : b = d <;> simp [h1, h2]
  rw [e]
  show (Op.equalIn (9999 + 1) 31 _ _).run _ _ = _
  rw [run_equalIn_agg w 9999 31 _ _ hS hp]
  simp only [Program.fieldsOf, Try.underlying31]
  go_simp
  by_cases h1 : p.1 = q.1 <;> by_cases h2 : p.2 = q.2 <;> simp [h1, h2]
/-- all keys are places -/
def Kys (l : List MapEntry) : Prop := ∀ x ∈ l, ∃ q, x.key = pk q
theorem find_asking (p : Int × Int) (w : World) : ∀ (l : List MapEntry) (i : Nat), Kys l → ((Instr.findAsking 31 (pk p) l i).run Try.prog w = .ok none w ∧ ∀ x ∈ l, x.key ≠ pk p) ∨ ∃ j e, (Instr.findAsking 31 (pk p) l i).run Try.prog w = .ok (some (i + j, e.val)) w ∧ l[j]? = some e ∧ e.key = pk p
  | [], i, _ => .inl ⟨rfl, by simp⟩
  | x :: r, i, h => by
    obtain ⟨q, hq⟩ := h x (by simp)
    have he := run_equal p q w
    rw [← hq] at he
    by_cases e : p = q
    · right
      refine ⟨0, x, ?_, rfl, by rw [hq, e]⟩
      rw [decide_eq_true e] at he
      simp [Instr.findAsking, he, Result.andThen]
    · rw [decide_eq_false e] at he
      have hrec : (Instr.findAsking 31 (pk p) (x :: r) i).run Try.prog w = (Instr.findAsking 31 (pk p) r (i + 1)).run Try.prog w := by
        simp [Instr.findAsking, he, Result.andThen]
      rcases find_asking p w r (i + 1) (fun y hy => h y (by simp [hy])) with ⟨h1, h2⟩ | ⟨j, e0, h1, h2, h3⟩
      · left
        refine ⟨by rw [hrec, h1], fun y hy => ?_⟩
        rcases List.mem_cons.1 hy with rfl | hy
        · rw [hq]; exact fun k => e (pk_inj k.symm)
        · exact h2 y hy
      · exact .inr ⟨j + 1, e0, by rw [hrec, h1, show i + 1 + j = i + (j + 1) by omega], by simpa using h2, h3⟩
theorem find_key (p : Int × Int) (w : World) (l : List MapEntry) (h : Kys l) : ((Instr.findKey 31 (pk p) l).run Try.prog w = .ok none w ∧ ∀ x ∈ l, x.key ≠ pk p) ∨ ∃ j e, (Instr.findKey 31 (pk p) l).run Try.prog w = .ok (some (j, e.val)) w ∧ l[j]? = some e ∧ e.key = pk p := by
  cases l with
  | nil => exact .inl ⟨by simp [Instr.findKey, run_underlying Try.underlying31, Instr.findNow, Result.andThen], by simp⟩
  | cons x r =>
    obtain ⟨q, hq⟩ := h x (by simp)
    have e : (Instr.findKey 31 (pk p) (x :: r)).run Try.prog w = (Instr.findAsking 31 (pk p) (x :: r)).run Try.prog w := by
      simp [Instr.findKey, run_underlying Try.underlying31, Instr.findNow, hq, Instr.sameNow, Result.andThen]
    rw [e]
    rcases find_asking p w (x :: r) 0 h with h1 | ⟨j, e0, h1, h2, h3⟩
    · exact .inl h1
    · exact .inr ⟨j, e0, by rw [h1, Nat.zero_add], h2, h3⟩
theorem check_key (b : Bool) (p : Int × Int) (w : World) : (Instr.checkKey b 10000 31 (pk p)).run Try.prog w = .ok () w := by
  kernel_rfl
theorem stays_key (p : Int × Int) (w : World) : (Instr.keyThatStays (pk p) (pk p)).run Try.prog w = .ok (pk p) w := by
  have : Instr.sameBits 10000 (pk p) (pk p) = true := by
    simp [Instr.sameBits]
  simp [Instr.keyThatStays, this]
/-- block b of w is a map that counts as g does: what is not there counts nought -/
def Cts (es : Array MapEntry) (g : Int × Int → Int) : Prop := ∀ p, (∃ x ∈ es.toList, x.key = pk p ∧ x.val = .int .i64 (g p)) ∨ ((∀ x ∈ es.toList, x.key ≠ pk p) ∧ g p = 0)
def Mp (w : World) (b : Nat) (g : Int × Int → Int) : Prop := ∃ es clock, w.heap[b]? = some (.map es clock) ∧ Stamped es clock ∧ Kys es.toList ∧ Cts es g
theorem Mp.heap {w w' : World} {b : Nat} {g : Int × Int → Int} (h : Mp w b g) (e : w'.heap[b]? = w.heap[b]?) : Mp w' b g := by
  obtain ⟨es, clock, h1, h2⟩ := h
  exact ⟨es, clock, e.trans h1, h2⟩
theorem Mp.lt {w : World} {b : Nat} {g : Int × Int → Int} (h : Mp w b g) : b < w.heap.size := by
  obtain ⟨es, clock, h1, _⟩ := h
  exact (Array.getElem?_eq_some_iff.1 h1).1
theorem Mp.new (w : World) : Mp (w.alloc (.map #[] 0)) w.heap.size (fun _ => 0) :=
  ⟨#[], 0, (MapKept.heap_alloc w _).1, stamped_empty 0, by intro x hx; simp at hx, fun p => .inr ⟨by simp, rfl⟩⟩
theorem Mp.row {w : World} {b o : Nat} {g : Int × Int → Int} {v : Value} (h : Mp w b g) (hv : w.cell? ⟨b, o, none⟩ = some v) : False := by
  obtain ⟨es, clock, h1, _⟩ := h
  simp [World.cell?, h1] at hv
theorem key_inj {es : Array MapEntry} {clock : Nat} (h : Stamped es clock) {i j : Nat} (hi : i < es.toList.length) (hj : j < es.toList.length) (e : es.toList[i].key = es.toList[j].key) : i = j := by
  have hp := List.pairwise_iff_getElem.1 ((stamped_iff es clock).1 h).2.2
  rcases Nat.lt_trichotomy i j with h1 | h1 | h1
  · exact absurd e (hp i j hi hj h1)
  · exact h1
  · exact absurd e.symm (hp j i hj hi h1)
/-- two that are at one key are one -/
theorem stamped_one {es : Array MapEntry} {clock : Nat} (h : Stamped es clock) {x y : MapEntry} (hx : x ∈ es.toList) (hy : y ∈ es.toList) (e : x.key = y.key) : x = y := by
  obtain ⟨i, hi, ei⟩ := List.getElem_of_mem hx
  obtain ⟨j, hj, ej⟩ := List.getElem_of_mem hy
  have this := key_inj h hi hj (by rw [ei, ej, e])
  subst this
  rw [← ei, ← ej]
theorem zero_int (w : World) : (zeroValue 3).run Try.prog w = .ok (.int .i64 0) w := by kernel_rfl
theorem look_any {w : World} {b : Nat} {g : Int × Int → Int} (h : Mp w b g) (p : Int × Int) : (Instr.lookup 69 (.map (some b)) (pk p) false).run Try.prog w = .ok (.int .i64 (g p)) w := by
  obtain ⟨es, clock, h1, h2, h3, h4⟩ := h
  rcases find_key p w es.toList h3 with ⟨f1, f2⟩ | ⟨j, e, f1, f2, f3⟩
  · have hg : g p = 0 := by
      rcases h4 p with ⟨x, hx, hk, _⟩ | ⟨_, hg⟩
      · exact absurd hk (f2 x hx)
      · exact hg
    simp [Instr.lookup, run_underlying Try.underlying69, MapKept.run_getObj_map h1, check_key, f1, Result.andThen, hg]
  · have hv : e.val = .int .i64 (g p) := by
      rcases h4 p with ⟨x, hx, hk, hv⟩ | ⟨hn, _⟩
      · rw [stamped_one h2 (List.mem_of_getElem? f2) hx (f3.trans hk.symm)]; exact hv
      · exact absurd f3 (hn e (List.mem_of_getElem? f2))
    simp [Instr.lookup, run_underlying Try.underlying69, MapKept.run_getObj_map h1, check_key, f1, Result.andThen, hv]
theorem look_nil (w : World) (p : Int × Int) : (Instr.lookup 69 (.map none) (pk p) false).run Try.prog w = .ok (.int .i64 0) w := by
  have f1 : (Instr.findKey 31 (pk p) []).run Try.prog w = .ok none w := by
    simp [Instr.findKey, run_underlying Try.underlying31, Instr.findNow, Result.andThen]
  simp [Instr.lookup, run_underlying Try.underlying69, check_key, f1, Result.andThen]
def setB (w : World) (b : Nat) (o : Obj) : World := { w with heap := w.heap.setIfInBounds b o }
def ud (g : Int × Int → Int) (p : Int × Int) (v : Int) : Int × Int → Int := fun q => if q = p then v else g q
theorem setB_grown {w : World} {b : Nat} {o : Obj} : w.grownBy (setB w b o) (some b) :=
  ⟨rfl, rfl, rfl, by simp [setB], fun k _ hr => by simp [setB, show b ≠ k from fun e => hr (by rw [e])]⟩
/-- an entry is asked for ('m[p] op= ..'), then its value written -/
theorem entry_any {w : World} {b : Nat} {g : Int × Int → Int} (h : Mp w b g) (p : Int × Int) : ∃ v0 st w1, (Instr.mapEntry 69 (.map (some b)) (pk p)).run Try.prog w = .ok (.tuple #[v0, .int .i64 st]) w1 ∧ w.grownBy w1 (some b) ∧ Mp w1 b g ∧
    ∀ w2 v, w2.heap[b]? = w1.heap[b]? → ∃ w3, (Instr.entryStore 69 (.map (some b)) (.int .i64 st) (.int .i64 v)).run Try.prog w2 = .ok () w3 ∧ w2.grownBy w3 (some b) ∧ Mp w3 b (ud g p v) := by
  obtain ⟨es, clock, h1, h2, h3, h4⟩ := h
  have hbl : b < w.heap.size := (Array.getElem?_eq_some_iff.1 h1).1
  rcases find_key p w es.toList h3 with ⟨f1, f2⟩ | ⟨j, e, f1, f2, f3⟩
  · have hg : g p = 0 := by
      rcases h4 p with ⟨x, hx, hk, _⟩ | ⟨_, hg⟩
      · exact absurd hk (f2 x hx)
      · exact hg
    refine ⟨.int .i64 0, clock, setB w b (.map (es.push ⟨pk p, .int .i64 0, clock⟩) (clock + 1)), ?_, setB_grown, ⟨es.push ⟨pk p, .int .i64 0, clock⟩, clock + 1, by simp [setB, hbl], stamped_push h2 f2, ?_, ?_⟩, fun w2 v hw2 => ?_⟩
    · simp [Instr.mapEntry, run_underlying Try.underlying69, MapKept.run_getObj_map h1, check_key, f1, MapKept.run_setObj_map _ h1, Result.andThen, setB, goInt]
    · intro x hx
      simp only [Array.toList_push, List.mem_append, List.mem_singleton] at hx
      rcases hx with hx | rfl
      · exact h3 x hx
      · exact ⟨p, rfl⟩
    · intro q
      by_cases e : q = p
      · subst e
        exact .inl ⟨⟨pk q, .int .i64 0, clock⟩, by simp, rfl, by rw [hg]⟩
      · rcases h4 q with ⟨x, hx, hk, hv⟩ | ⟨hn, hg'⟩
        · exact .inl ⟨x, by simp [Array.mem_toList_iff.1 hx], hk, hv⟩
        · refine .inr ⟨fun x hx => ?_, hg'⟩
          simp only [Array.toList_push, List.mem_append, List.mem_singleton] at hx
          rcases hx with hx | rfl
          · exact hn x hx
          · exact fun k => e (pk_inj k).symm
    · have hw2' : w2.heap[b]? = some (.map (es.push ⟨pk p, .int .i64 0, clock⟩) (clock + 1)) := by rw [hw2]; simp [setB, hbl]
      have hbl2 : b < w2.heap.size := (Array.getElem?_eq_some_iff.1 hw2').1
      have hidx : (es.push ⟨pk p, .int .i64 0, clock⟩).findIdx? (fun e => ((e.born : Nat) : Int) == ((clock : Nat) : Int)) = some es.size := by
        rw [findIdx_arr]
        exact findIdx_born (l := (es.push ⟨pk p, .int .i64 0, clock⟩).toList) (j := es.size) (e0 := ⟨pk p, .int .i64 0, clock⟩) (stamped_push h2 f2).2.1 (by simp)
      have hmod : (es.push ⟨pk p, .int .i64 0, clock⟩).modify es.size (fun e => { e with val := .int .i64 v }) = es.push ⟨pk p, .int .i64 v, clock⟩ := by
        apply Array.ext'
        rw [Array.toList_modify, Array.toList_push, Array.toList_push, ← Array.length_toList, modify_last]
      refine ⟨setB w2 b (.map (es.push ⟨pk p, .int .i64 v, clock⟩) (clock + 1)), ?_, setB_grown, ⟨es.push ⟨pk p, .int .i64 v, clock⟩, clock + 1, by simp [setB, hbl2], stamped_push h2 f2, ?_, ?_⟩⟩
      · simp [Instr.entryStore, MapKept.run_getObj_map hw2', asInt, asIntOf, hidx, hmod, MapKept.run_setObj_map _ hw2', Result.andThen, setB]
      · intro x hx
        simp only [Array.toList_push, List.mem_append, List.mem_singleton] at hx
        rcases hx with hx | rfl
        · exact h3 x hx
        · exact ⟨p, rfl⟩
      · intro q
        by_cases e : q = p
        · subst e
          exact .inl ⟨⟨pk q, .int .i64 v, clock⟩, by simp, rfl, by simp [ud]⟩
        · rcases h4 q with ⟨x, hx, hk, hv⟩ | ⟨hn, hg'⟩
          · exact .inl ⟨x, by simp [Array.mem_toList_iff.1 hx], hk, by simp [ud, e, hv]⟩
          · refine .inr ⟨fun x hx => ?_, by simp [ud, e, hg']⟩
            simp only [Array.toList_push, List.mem_append, List.mem_singleton] at hx
            rcases hx with hx | rfl
            · exact hn x hx
            · exact fun k => e (pk_inj k).symm
  · have hv : e.val = .int .i64 (g p) := by
      rcases h4 p with ⟨x, hx, hk, hv⟩ | ⟨hn, _⟩
      · rw [stamped_one h2 (List.mem_of_getElem? f2) hx (f3.trans hk.symm)]; exact hv
      · exact absurd f3 (hn e (List.mem_of_getElem? f2))
    have hj : es[j]? = some e := by simpa using f2
    have hsame : es.modify j (fun e => { e with key := pk p }) = es := by
      apply Array.ext'
      rw [Array.toList_modify, Go.ChangeMaps.modify_eq_set _ _ _ _ f2]
      have : ({ e with key := pk p } : MapEntry) = e := by rw [← f3]
      rw [this]
      exact set_self _ _ _ f2
    refine ⟨e.val, e.born, setB w b (.map es clock), ?_, setB_grown, ⟨es, clock, by simp [setB, hbl], h2, h3, h4⟩, fun w2 v hw2 => ?_⟩
    · simp [Instr.mapEntry, run_underlying Try.underlying69, MapKept.run_getObj_map h1, check_key, f1, hj, f3, stays_key, hsame, MapKept.run_setObj_map _ h1, Result.andThen, setB, goInt]
    · have hw2' : w2.heap[b]? = some (.map es clock) := by rw [hw2]; simp [setB, hbl]
      have hbl2 : b < w2.heap.size := (Array.getElem?_eq_some_iff.1 hw2').1
      have hidx : es.findIdx? (fun e' => ((e'.born : Nat) : Int) == ((e.born : Nat) : Int)) = some j := by
        rw [findIdx_arr]
        exact findIdx_born h2.2.1 f2
      have hst : Stamped (es.modify j (fun e' => { e' with val := .int .i64 v })) clock := stamped_modify h2 j _ (fun _ _ => rfl) (fun _ _ _ => rfl)
      have hml : (es.modify j (fun e' => { e' with val := .int .i64 v })).toList = es.toList.set j { e with val := .int .i64 v } := by
        rw [Array.toList_modify, Go.ChangeMaps.modify_eq_set _ _ _ _ f2]
      refine ⟨setB w2 b (.map (es.modify j (fun e' => { e' with val := .int .i64 v })) clock), ?_, setB_grown, ⟨es.modify j (fun e' => { e' with val := .int .i64 v }), clock, by simp [setB, hbl2], hst, ?_, ?_⟩⟩
      · simp [Instr.entryStore, MapKept.run_getObj_map hw2', asInt, asIntOf, hidx, MapKept.run_setObj_map _ hw2', Result.andThen, setB]
      · rw [hml]
        intro x hx
        rcases List.mem_or_eq_of_mem_set hx with hx | rfl
        · exact h3 x hx
        · exact ⟨p, f3⟩
      · intro q
        rw [hml]
        by_cases eq : q = p
        · subst eq
          refine .inl ⟨_, List.mem_set (by exact (List.getElem?_eq_some_iff.1 f2).1) _, f3, by simp [ud]⟩
        · rcases h4 q with ⟨x, hx, hk, hv'⟩ | ⟨hn, hg'⟩
          · refine .inl ⟨x, ?_, hk, by simp [ud, eq, hv']⟩
            obtain ⟨i, hi, ei⟩ := List.getElem_of_mem hx
            have hij : i ≠ j := by
              intro e'
              subst e'
              have : e = x := by rw [List.getElem?_eq_getElem hi] at f2; cases f2; exact ei
              rw [this, hk] at f3
              exact eq (pk_inj f3)
            refine List.mem_iff_getElem?.2 ⟨i, ?_⟩
            rw [List.getElem?_set_ne (Ne.symm hij), List.getElem?_eq_getElem hi, ei]
          · refine .inr ⟨fun x hx => ?_, by simp [ud, eq, hg']⟩
            rcases List.mem_or_eq_of_mem_set hx with hx | rfl
            · exact hn x hx
            · show e.key ≠ pk q
              rw [f3]
              exact fun k => eq (pk_inj k).symm
/-- 'delete(m, p)' -/
theorem delete_any {w : World} {b : Nat} {g : Int × Int → Int} (h : Mp w b g) (p : Int × Int) (ty : TypeId) : ∃ w1, (Builtin.delete_ #[69, 31] ty #[.map (some b), pk p]).run Try.prog w = .ok (.tuple #[]) w1 ∧ w.grownBy w1 (some b) ∧ Mp w1 b (ud g p 0) := by
  obtain ⟨es, clock, h1, h2, h3, h4⟩ := h
  have hbl : b < w.heap.size := (Array.getElem?_eq_some_iff.1 h1).1
  rcases find_key p w es.toList h3 with ⟨f1, f2⟩ | ⟨j, e, f1, f2, f3⟩
  · refine ⟨setB w b (.map es clock), ?_, setB_grown, ⟨es, clock, by simp [setB, hbl], h2, h3, fun q => ?_⟩⟩
    · simp [Builtin.delete_, run_underlying Try.underlying69, MapKept.run_getObj_map h1, check_key, f1, MapKept.run_setObj_map _ h1, Result.andThen, setB]
    · by_cases eq : q = p
      · subst eq
        exact .inr ⟨f2, by simp [ud]⟩
      · simpa [ud, eq] using h4 q
  · have hj : j < es.size := by simpa using (List.getElem?_eq_some_iff.1 f2).1
    refine ⟨setB w b (.map (es.eraseIdxIfInBounds j) clock), ?_, setB_grown, ⟨es.eraseIdxIfInBounds j, clock, by simp [setB, hbl], stamped_erase h2 j, ?_, fun q => ?_⟩⟩
    · simp [Builtin.delete_, run_underlying Try.underlying69, MapKept.run_getObj_map h1, check_key, f1, MapKept.run_setObj_map _ h1, Result.andThen, setB]
    · intro x hx
      exact h3 x (by
        have hs : (es.eraseIdxIfInBounds j).toList.Sublist es.toList := by
          unfold Array.eraseIdxIfInBounds
          rw [dif_pos hj]
          simp only [Array.toList_eraseIdx]
          exact List.eraseIdx_sublist _ _
        exact hs.subset hx)
    · have ht : (es.eraseIdxIfInBounds j).toList = es.toList.eraseIdx j := by
        unfold Array.eraseIdxIfInBounds
        rw [dif_pos hj]
        simp only [Array.toList_eraseIdx]
      have hpw : es.toList.Pairwise (fun x y => x.key ≠ y.key) := ((stamped_iff es clock).1 h2).2.2
      rw [ht]
      have hmem : ∀ x, x ∈ es.toList.eraseIdx j ↔ x ∈ es.toList ∧ x.key ≠ pk p := by
        intro x
        rw [List.mem_eraseIdx_iff_getElem?]
        constructor
        · rintro ⟨i, hij, hi⟩
          refine ⟨List.mem_of_getElem? hi, fun hk => ?_⟩
          have : x = e := stamped_one h2 (List.mem_of_getElem? hi) (List.mem_of_getElem? f2) (hk.trans f3.symm)
          subst this
          have h1 := (List.getElem?_eq_some_iff.1 hi)
          have h2' := (List.getElem?_eq_some_iff.1 f2)
          exact hij (key_inj h2 h1.1 h2'.1 (by rw [h1.2, h2'.2]))
        · rintro ⟨hx, hk⟩
          obtain ⟨i, hi⟩ := List.mem_iff_getElem?.1 hx
          refine ⟨i, fun eij => ?_, hi⟩
          subst eij
          rw [f2] at hi
          cases hi
          exact hk f3
      by_cases eq : q = p
      · subst eq
        exact .inr ⟨fun x hx => ((hmem x).1 hx).2, by simp [ud]⟩
      · rcases h4 q with ⟨x, hx, hk, hv⟩ | ⟨hn, hg'⟩
        · exact .inl ⟨x, (hmem x).2 ⟨hx, by rw [hk]; exact fun k => eq (pk_inj k)⟩, hk, by simp [ud, eq, hv]⟩
        · exact .inr ⟨fun x hx => hn x ((hmem x).1 hx).1, by simp [ud, eq, hg']⟩
end Go.Proofs.Ytedmmpognhpbdaa.pm
