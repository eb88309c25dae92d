/- Contracts of the functions that let a version into a row, if it is later, of program and model. Condition: a row of four, a key from 0 to 3. -/
import Derived.Test.YtpkoidbenojkmaaVerCopy
import Derived.Test.YtpkoidbenojkmaaStoreTags
namespace Go.Proofs.Ytpkoidbenojkmaa
open Go.RowKit Go.Joins
attribute [local go_sem ↓] Go.wp_at_zero Go.wp_at_succ

/-- A row with a version, if that is later. -/
def keepL (us : List V) (v : V) : List V := match us[v.k.toNat]? with | some x => if lessB x.t x.u v.t v.u = true then us.set v.k.toNat v else us | none => us
theorem keepL_len (us : List V) (v : V) : (keepL us v).length = us.length := by
  unfold keepL
  split
  · split <;> simp
  · rfl
theorem keepL_yes {us : List V} {v x : V} (hx : us[v.k.toNat]? = some x) (h : lessB x.t x.u v.t v.u = true) : keepL us v = us.set v.k.toNat v := by unfold keepL; rw [hx]; simp [h]
theorem keepL_no {us : List V} {v x : V} (hx : us[v.k.toNat]? = some x) (h : lessB x.t x.u v.t v.u = false) : keepL us v = us := by unfold keepL; rw [hx]; simp [h]
theorem like_refl (us : List V) : Like us us := fun i v v' h h' => by
  rw [h] at h'
  injection h' with h'
  subst h'
  exact ⟨rfl, rfl, rfl, rfl, rfl, rfl⟩
theorem like_set {us : List V} {j : Nat} {v v' : V} (h : V.like v' v) : Like (us.set j v') (us.set j v) := fun i x y hx hy => by
  by_cases e : i = j
  · subst e
    have hl := (List.getElem?_eq_some_iff.1 hx).1
    rw [List.length_set] at hl
    rw [List.getElem?_set_self hl] at hx hy
    injection hx with hx
    injection hy with hy
    subst hx hy
    exact h
  · rw [List.getElem?_set_ne (fun e' => e e'.symm)] at hx hy
    exact like_refl us i x y hx hy
/-- One version of a row put in the place of another. -/
theorem ORow.put6 {w : World} {B U G j : Nat} {us : List V} {cur : Array Value} {v : V} (h : ORow w B U G us cur) (hj : j < us.length) (ho : Own1 w B U v) (hap : ∀ (i : Nat) x, i ≠ j → us[i]? = some x → x.ts ≠ [] → v.ts ≠ [] → x.a ≠ v.a) (hG : v.ts ≠ [] → v.a ≠ some ⟨G, 0, none⟩) :
    ORow ((((((w.setCell ⟨G, j * 6, none⟩ (.int .i64 v.k)).setCell ⟨G, j * 6 + 1, none⟩ (.int .i64 v.t)).setCell ⟨G, j * 6 + 2, none⟩ (.int .i64 v.u)).setCell ⟨G, j * 6 + 3, none⟩ (.slice v.a v.ts.length v.c)).setCell ⟨G, j * 6 + 4, none⟩ (.string v.s)).setCell ⟨G, j * 6 + 5, none⟩ (.bool v.g)) B U G (us.set j v) (put6 cur j v) ∧
    Turn (fun g => g = G) w ((((((w.setCell ⟨G, j * 6, none⟩ (.int .i64 v.k)).setCell ⟨G, j * 6 + 1, none⟩ (.int .i64 v.t)).setCell ⟨G, j * 6 + 2, none⟩ (.int .i64 v.u)).setCell ⟨G, j * 6 + 3, none⟩ (.slice v.a v.ts.length v.c)).setCell ⟨G, j * 6 + 4, none⟩ (.string v.s)).setCell ⟨G, j * 6 + 5, none⟩ (.bool v.g)) := by
  have ht : Turn (fun g => g = G) w ((((((w.setCell ⟨G, j * 6, none⟩ (.int .i64 v.k)).setCell ⟨G, j * 6 + 1, none⟩ (.int .i64 v.t)).setCell ⟨G, j * 6 + 2, none⟩ (.int .i64 v.u)).setCell ⟨G, j * 6 + 3, none⟩ (.slice v.a v.ts.length v.c)).setCell ⟨G, j * 6 + 4, none⟩ (.string v.s)).setCell ⟨G, j * 6 + 5, none⟩ (.bool v.g)) :=
    ((((((Turn.refl (fun g => g = G) w).set (p := ⟨G, j * 6, none⟩) rfl _).set (p := ⟨G, j * 6 + 1, none⟩) rfl _).set (p := ⟨G, j * 6 + 2, none⟩) rfl _).set (p := ⟨G, j * 6 + 3, none⟩) rfl _).set (p := ⟨G, j * 6 + 4, none⟩) rfl _).set (p := ⟨G, j * 6 + 5, none⟩) rfl _
  have hs : j * 6 + 5 < cur.size := by have := h.size; omega
  have hget : ∀ (i : Nat) x, (us.set j v)[i]? = some x → (i = j ∧ x = v) ∨ (i ≠ j ∧ us[i]? = some x) := by
    intro i x hx
    by_cases e : i = j
    · subst e
      rw [List.getElem?_set_self hj] at hx
      injection hx with hx
      exact .inl ⟨rfl, hx.symm⟩
    · rw [List.getElem?_set_ne (fun e' => e e'.symm)] at hx
      exact .inr ⟨e, hx⟩
  refine ⟨⟨(((((h.blk.put _ _).put _ _).put _ _).put _ _).put _ _).put _ _, h.lo, h.hi, by simpa using h.size, fun i x hx => ?_, fun i x hx => ?_, fun i i' x y hne hx hy hn hn' => ?_⟩, ht⟩
  · rcases hget i x hx with ⟨rfl, rfl⟩ | ⟨e, hq⟩
    · exact verAt_put hs
    · exact verAt_other e (h.at' i x hq)
  · rcases hget i x hx with ⟨rfl, rfl⟩ | ⟨e, hq⟩
    · exact ho.turned ht (fun g hg _ _ hne e => hG hne (by rw [hg, e]))
    · exact (h.own i x hq).turned ht (fun g hg _ _ hne e => h.apartG hq hne hg e)
  · rcases hget i x hx with ⟨e1, e2⟩ | ⟨e, hq⟩ <;> rcases hget i' y hy with ⟨e3, e4⟩ | ⟨e', hq'⟩
    · omega
    · subst e1; rw [e2]; exact fun e => hap i' y e' hq' hn' (e2 ▸ hn) e.symm
    · subst e3; rw [e4]; exact hap i x e hq hn (e4 ▸ hn')
    · exact h.apart i i' x y hne hq hq' hn hn'
theorem ORow.aside {w : World} {B U G : Nat} {us : List V} {cur : Array Value} (h : ORow w B U G us cur) {p : Addr} {T : TypeId} {cs : Array Value} (hb : Blk w p.block T cs) (hT : T ≠ 55) (hp : G ≠ p.block) (u : Value) : ORow (w.setCell p u) B U G us cur :=
  ⟨h.blk.aside hp u, h.lo, h.hi, h.size, h.at', fun i v hi => (h.own i v hi).tk (.set hb hT u), h.apart⟩
theorem Turn.far {P : Nat → Prop} {w w' : World} (h : Turn P w w') {p : Addr} (hp : w.heap.size ≤ p.block) (u : Value) : Turn P w (w'.setCell p u) :=
  ⟨h.os, h.tape, h.output, by simpa [World.setCell] using h.size, fun k hk hn => (Below.heap_setCell w' p u k (by omega)).trans (h.block k hk hn)⟩
/-- What letting a version in leaves. -/
def KeptL (w : World) (B G : Nat) (us : List V) (v : V) (x : Value) (e : Ending) (w' : World) : Prop :=
  ∃ (us' : List V) (cur' : Array Value), e = .returned x ∧ us'.length = us.length ∧ Like us' (keepL us v) ∧ ORow w' B w'.heap.size G us' cur' ∧ Turn (fun g => g = G) w w'

end Go.Proofs.Ytpkoidbenojkmaa
