/- The two maps of a history's account: views by clients, writes by tags; how they are looked up and stored into. -/
import Derived.Test.YtjljaobmeaocjaaHistPure
import Derived.Test.YtjljaobmeaocjaaHead
import Derived.Maps.Own
import Derived.Maps.OwnSet
import Derived.Maps.Views
import Derived.DeepKeys4
import Derived.MapViews
import Derived.ChangeShapes
import Derived.Lib.SmallJoins
namespace Go.Proofs.Ytjljaobmeaocjaa
open Go.RowKit Go.Joins Go.Maps Go.ChangeShapes

/-- An element reads as itself. -/
def RV (v : Value) : Option (DataW Value × List MemPlace) := some (.held v, [])
theorem RV_inj {v : Value} {d : DataW Value} {ps : List MemPlace} (h : RV v = some (d, ps)) : d = .held v := by
  unfold RV at h
  injection h with h
  injection h with h _
  exact h.symm

theorem intKeyed : Keyed Try.prog 3 := int_keyed Try.underlying3
set_option maxRecDepth 100000 in
theorem tagKeyed : Keyed Try.prog 43 := Keyed.of_law (deep_law_laid all_laid (m := 3) (by omega) (of_decide_eq_true (by kernel_rfl)) (by kernel_rfl) (by kernel_rfl))
theorem wf64 {n : Int} (h0 : -9223372036854775808 ≤ n) (h1 : n ≤ 9223372036854775807) : (Lit.int .i64 n).wf = true := WalkArith.wf_i64 ⟨h0, h1⟩
/-- Two numbers that an int can hold. -/
def inT (t u : Int) : Bool := decide (-9223372036854775808 ≤ t ∧ t ≤ 9223372036854775807 ∧ -9223372036854775808 ≤ u ∧ u ≤ 9223372036854775807)
theorem inT_i {t u : Int} (h : inT t u = true) : -9223372036854775808 ≤ t ∧ t ≤ 9223372036854775807 ∧ -9223372036854775808 ≤ u ∧ u ≤ 9223372036854775807 := of_decide_eq_true h
theorem inT_ok {t u : Int} (h : okB t u = true) : inT t u = true := by
  have := okB_i h
  exact decide_eq_true (by omega)
/-- What a tag reads as, as a key. -/
def tagKey (t u : Int) : Lit := (DataW.agg (H := Unit) [.lit (.int .i64 t), .lit (.int .i64 u)]).asKey
set_option maxRecDepth 100000 in
theorem keyOf_tag {t u : Int} (h : inT t u = true) : keyOf Try.prog 43 (.agg #[.int .i64 t, .int .i64 u]) = some (tagKey t u) := by
  have hb := inT_i h
  have ht := shut_agg2 (H := Unit) (enc := fun _ => ()) (P := Try.prog) (w := World.settled Try.prog default) (base := 0) (spare := fun _ => true) (held := true) Try.underlying43 (by kernel_rfl) (by kernel_rfl)
    (shut_int Try.underlying3 (n := t) (wf64 (by omega) (by omega))) (shut_int Try.underlying3 (n := u) (wf64 (by omega) (by omega)))
  exact (keyOf_asKey (by kernel_rfl) (by kernel_rfl) (by simp [Value.formed, Try.underlying43]; kernel_rfl) ht).1
theorem tagKey_inj {t u t' u' : Int} (h : inT t u = true) (h' : inT t' u' = true) (e : tagKey t u = tagKey t' u') : t = t' ∧ u = u' := by
  have := tagKeyed.inj (keyOf_tag h) (by rw [e]; exact keyOf_tag h')
  simpa using this

/-- The map of views reads as this state's views. -/
def VM (w : World) (b N : Nat) (st : St) : Prop :=
  ∃ D : DataW Value, w.ownsMap Try.prog 3 RV b N D ∧ ∀ s : Int, 0 ≤ s → s ≤ 3 → D.atKey (.int .i64 s) (.held (.agg zero8)) = .held (.agg (cells4 (viewOf st s)))
theorem VM.lt {w : World} {b N : Nat} {st : St} (h : VM w b N st) : b < w.heap.size := by obtain ⟨D, hD, _⟩ := h; exact hD.lt
theorem VM.kept {w w' : World} {b N : Nat} {st : St} {row : Option Nat} (h : VM w b N st) (hg : w.grownBy w' row) (hne : some b ≠ row) : VM w' b N st := by
  obtain ⟨D, hD, h⟩ := h
  exact ⟨D, hD.kept hg hne, h⟩
theorem VM.on {w w' : World} {b N : Nat} {st : St} (h : VM w b N st) (hb : Below w.heap.size w w') : VM w' b N st := h.kept (row := none) (grown_none hb) (by simp)
theorem VM.mono {w : World} {b N N' : Nat} {st : St} (h : VM w b N st) (hn : N ≤ N') : VM w b N' st := by
  obtain ⟨D, hD, h⟩ := h
  exact ⟨D, hD.mono hn, h⟩
theorem VM.same {w : World} {b N : Nat} {st st' : St} (h : VM w b N st) (e : st'.1 = st.1) : VM w b N st' := by
  obtain ⟨D, hD, h⟩ := h
  refine ⟨D, hD, fun s h0 h3 => ?_⟩
  have : viewOf st' s = viewOf st s := by unfold viewOf; rw [e]
  rw [this]
  exact h s h0 h3
set_option maxRecDepth 100000 in
theorem VM.made (w : World) : VM (w.alloc (.map #[] 0)) w.heap.size 0 st0 := by
  refine ⟨.map [], World.ownsMap_made w _ _ _, fun s h0 h3 => ?_⟩
  have : s = 0 ∨ s = 1 ∨ s = 2 ∨ s = 3 := by omega
  rcases this with rfl | rfl | rfl | rfl <;> rfl
set_option maxRecDepth 100000 in
theorem zero_vec (w : World) : (zeroValue 77).run Try.prog w = .ok (.agg zero8) w := by kernel_rfl
theorem keyOf_sess {s : Int} (h0 : 0 ≤ s) (h3 : s ≤ 3) : keyOf Try.prog 3 (.int .i64 s) = some (.int .i64 s) := keyOf_int_mk Try.underlying3 (wf64 (by omega) (by omega))
set_option maxRecDepth 100000 in
theorem VM.look {w : World} {b N : Nat} {st : St} (h : VM w b N st) {s : Int} (h0 : 0 ≤ s) (h3 : s ≤ 3) :
    (Instr.lookup 67 (.map (some b)) (.int .i64 s) false).run Try.prog w = .ok (.agg (cells4 (viewOf st s))) w := by
  obtain ⟨D, hD, h⟩ := h
  obtain ⟨v, ps, hrun, hv⟩ := hD.lookup intKeyed Try.underlying67 (zero_vec w) (zd := .held (.agg zero8)) (zp := []) rfl (keyOf_sess h0 h3)
  have := (RV_inj hv).symm.trans (h s h0 h3)
  injection this with this
  rw [hrun, this]
set_option maxRecDepth 100000 in
theorem VM.put {w : World} {b N : Nat} {st st' : St} (h : VM w b N st) (hN : N < 1000000) {s : Int} (h0 : 0 ≤ s) (h3 : s ≤ 3) {v' : T4} (hs : viewOf st' s = v') (ho : ∀ s' : Int, 0 ≤ s' → s' ≤ 3 → s' ≠ s → viewOf st' s' = viewOf st s') :
    ∃ w', (Instr.mapUpdate 67 (.map (some b)) (.int .i64 s) (.agg (cells4 v'))).run Try.prog w = .ok () w' ∧ VM w' b (N + 1) st' ∧ w.grownBy w' (some b) := by
  obtain ⟨D, hD, h⟩ := h
  obtain ⟨w', hrun, hD', hG⟩ := hD.update intKeyed Try.underlying67 (by unfold maxLen; omega) (keyOf_sess h0 h3) (val := .agg (cells4 v')) (d := .held (.agg (cells4 v'))) (ps := []) rfl
  refine ⟨w', hrun, ⟨_, hD', fun s' h0' h3' => ?_⟩, hG⟩
  by_cases e : s' = s
  · subst e
    rw [atKey_put_same hD.isMap (by trivial), hs]
  · rw [atKey_put_other (by intro e'; injection e' with _ e'; exact e e'), ho s' h0' h3' e]
    exact h s' h0' h3'

/-- The cells of a write as the map holds it: who, of which key, and the view on which it depends. -/
def wrCells (x : D × T4) : Array Value := #[.int .i64 x.1.1, .int .i64 x.1.2.2.1] ++ cells4 x.2
abbrev zero10 : Array Value := #[.int .i64 0, .int .i64 0, .int .i64 0, .int .i64 0, .int .i64 0, .int .i64 0, .int .i64 0, .int .i64 0, .int .i64 0, .int .i64 0]
/-- The map of writes reads as this state's writes. -/
def WM (w : World) (b N : Nat) (st : St) : Prop :=
  ∃ D : DataW Value, w.ownsMap Try.prog 43 RV b N D ∧ ∀ t u : Int, inT t u = true → Maps.has D (tagKey t u) = (wrote st t u).isSome ∧ ∀ x, wrote st t u = some x → D.atKey (tagKey t u) (.held (.agg zero10)) = .held (.agg (wrCells x))
theorem WM.lt {w : World} {b N : Nat} {st : St} (h : WM w b N st) : b < w.heap.size := by obtain ⟨D, hD, _⟩ := h; exact hD.lt
theorem WM.kept {w w' : World} {b N : Nat} {st : St} {row : Option Nat} (h : WM w b N st) (hg : w.grownBy w' row) (hne : some b ≠ row) : WM w' b N st := by
  obtain ⟨D, hD, h⟩ := h
  exact ⟨D, hD.kept hg hne, h⟩
theorem WM.on {w w' : World} {b N : Nat} {st : St} (h : WM w b N st) (hb : Below w.heap.size w w') : WM w' b N st := h.kept (row := none) (grown_none hb) (by simp)
theorem WM.mono {w : World} {b N N' : Nat} {st : St} (h : WM w b N st) (hn : N ≤ N') : WM w b N' st := by
  obtain ⟨D, hD, h⟩ := h
  exact ⟨D, hD.mono hn, h⟩
theorem wrote_more {st : St} {vs : List T4} {d : D} {p : T4} (t u : Int) : wrote (vs, st.2 ++ [(d, p)]) t u = (wrote st t u).or (if isW t u (d, p) = true then some (d, p) else none) := by
  unfold wrote
  rw [List.find?_append]
  simp only [List.find?_cons, List.find?_nil]
  cases isW t u (d, p) <;> rfl
/-- A record that is no write adds no write. -/
theorem WM.read {w : World} {b N : Nat} {st : St} (h : WM w b N st) {vs : List T4} {d : D} {p : T4} (hk : (d.2.1 == 1) = false) : WM w b N (vs, st.2 ++ [(d, p)]) := by
  obtain ⟨D, hD, h⟩ := h
  refine ⟨D, hD, fun t u ho => ?_⟩
  have hw : wrote (vs, st.2 ++ [(d, p)]) t u = wrote st t u := by
    rw [wrote_more]
    have : isW t u (d, p) = false := by unfold isW; simp [hk]
    rw [this]
    simp
  rw [hw]
  exact h t u ho
set_option maxRecDepth 100000 in
theorem WM.made (w : World) : WM (w.alloc (.map #[] 0)) w.heap.size 0 st0 :=
  ⟨.map [], World.ownsMap_made w _ _ _, fun t u _ => ⟨rfl, fun x hx => by simp [wrote, st0] at hx⟩⟩
set_option maxRecDepth 100000 in
theorem zero_wr (w : World) : (zeroValue 82).run Try.prog w = .ok (.agg zero10) w := by kernel_rfl
set_option maxRecDepth 100000 in
theorem WM.found' {w : World} {b N : Nat} {st : St} (h : WM w b N st) {t u : Int} (ho : inT t u = true) {x : D × T4} (hx : wrote st t u = some x) :
    (Instr.lookup 68 (.map (some b)) (.agg #[.int .i64 t, .int .i64 u]) true).run Try.prog w = .ok (.tuple #[.agg (wrCells x), .bool true]) w := by
  obtain ⟨D, hD, h⟩ := h
  obtain ⟨h1, h2⟩ := h t u ho
  obtain ⟨v, ps, hrun, hv⟩ := hD.look_ok tagKeyed Try.underlying68 (zero_wr w) (zd := .held (.agg zero10)) (zp := []) rfl (keyOf_tag ho)
  have := (RV_inj hv).symm.trans (h2 x hx)
  injection this with this
  rw [hrun, this, h1, hx]
  rfl
set_option maxRecDepth 100000 in
theorem WM.missing' {w : World} {b N : Nat} {st : St} (h : WM w b N st) {t u : Int} (ho : inT t u = true) (hx : wrote st t u = none) :
    (Instr.lookup 68 (.map (some b)) (.agg #[.int .i64 t, .int .i64 u]) true).run Try.prog w = .ok (.tuple #[.agg zero10, .bool false]) w := by
  obtain ⟨D, hD, h⟩ := h
  obtain ⟨h1, h2⟩ := h t u ho
  obtain ⟨v, ps, hrun, hv⟩ := hD.look_ok tagKeyed Try.underlying68 (zero_wr w) (zd := .held (.agg zero10)) (zp := []) rfl (keyOf_tag ho)
  rw [hx] at h1
  have := (RV_inj hv).symm.trans (atKey_of_not_has h1 _)
  injection this with this
  rw [hrun, this, h1]
  rfl
theorem WM.found {w : World} {b N : Nat} {st : St} (h : WM w b N st) {t u : Int} (ho : okB t u = true) {x : D × T4} (hx : wrote st t u = some x) :
    (Instr.lookup 68 (.map (some b)) (.agg #[.int .i64 t, .int .i64 u]) true).run Try.prog w = .ok (.tuple #[.agg (wrCells x), .bool true]) w := h.found' (inT_ok ho) hx
theorem WM.missing {w : World} {b N : Nat} {st : St} (h : WM w b N st) {t u : Int} (ho : okB t u = true) (hx : wrote st t u = none) :
    (Instr.lookup 68 (.map (some b)) (.agg #[.int .i64 t, .int .i64 u]) true).run Try.prog w = .ok (.tuple #[.agg zero10, .bool false]) w := h.missing' (inT_ok ho) hx
set_option maxRecDepth 100000 in
theorem WM.look {w : World} {b N : Nat} {st : St} (h : WM w b N st) {t u : Int} (ho : inT t u = true) {x : D × T4} (hx : wrote st t u = some x) :
    (Instr.lookup 68 (.map (some b)) (.agg #[.int .i64 t, .int .i64 u]) false).run Try.prog w = .ok (.agg (wrCells x)) w := by
  obtain ⟨D, hD, h⟩ := h
  obtain ⟨h1, h2⟩ := h t u ho
  obtain ⟨v, ps, hrun, hv⟩ := hD.lookup tagKeyed Try.underlying68 (zero_wr w) (zd := .held (.agg zero10)) (zp := []) rfl (keyOf_tag ho)
  have := (RV_inj hv).symm.trans (h2 x hx)
  injection this with this
  rw [hrun, this]
set_option maxRecDepth 100000 in
theorem WM.put {w : World} {b N : Nat} {st : St} (h : WM w b N st) (hN : N < 1000000) {d : D} {p : T4} (ho0 : okB d.2.2.2.1 d.2.2.2.2 = true) (hk : (d.2.1 == 1) = true) (hn : wrote st d.2.2.2.1 d.2.2.2.2 = none) :
    ∃ w', (Instr.mapUpdate 68 (.map (some b)) (.agg #[.int .i64 d.2.2.2.1, .int .i64 d.2.2.2.2]) (.agg (wrCells (d, p)))).run Try.prog w = .ok () w' ∧ WM w' b (N + 1) (st.1, st.2 ++ [(d, p)]) ∧ w.grownBy w' (some b) := by
  have ho := inT_ok ho0
  obtain ⟨D, hD, h⟩ := h
  obtain ⟨w', hrun, hD', hG⟩ := hD.update tagKeyed Try.underlying68 (by unfold maxLen; omega) (keyOf_tag ho) (val := .agg (wrCells (d, p))) (d := .held (.agg (wrCells (d, p)))) (ps := []) rfl
  refine ⟨w', hrun, ⟨_, hD', fun t u ho' => ?_⟩, hG⟩
  have hkl : WideAt.IsKeyLit (tagKey d.2.2.2.1 d.2.2.2.2) := tagKeyed.key (keyOf_tag ho)
  by_cases e : t = d.2.2.2.1 ∧ u = d.2.2.2.2
  · obtain ⟨rfl, rfl⟩ := e
    have hw : wrote (st.1, st.2 ++ [(d, p)]) d.2.2.2.1 d.2.2.2.2 = some (d, p) := by
      rw [wrote_more, hn]
      have : isW d.2.2.2.1 d.2.2.2.2 (d, p) = true := by unfold isW; rw [eqB_same]; simpa using hk
      rw [this]
      rfl
    rw [hw]
    exact ⟨has_put_same hD.isMap hkl _, fun x hx => by
      injection hx with hx
      subst hx
      exact atKey_put_same hD.isMap hkl _ _⟩
  · have hne : tagKey t u ≠ tagKey d.2.2.2.1 d.2.2.2.2 := fun e' => e (tagKey_inj ho' ho e')
    have hw : wrote (st.1, st.2 ++ [(d, p)]) t u = wrote st t u := by
      rw [wrote_more]
      have : isW t u (d, p) = false := by
        unfold isW eqB
        rw [decide_eq_false (by simp only; omega)]
        simp
      rw [this]
      simp
    rw [hw]
    obtain ⟨h1, h2⟩ := h t u ho'
    exact ⟨(has_put_other hne _).trans h1, fun x hx => (atKey_put_other hne _ _).trans (h2 x hx)⟩
end Go.Proofs.Ytjljaobmeaocjaa
