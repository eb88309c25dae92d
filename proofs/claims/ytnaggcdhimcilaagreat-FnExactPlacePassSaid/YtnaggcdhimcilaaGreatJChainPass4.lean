/- Contracts of the model's l3Can and l3Pass. Condition: at most four nodes, all valid. -/
import Derived.Test.YtnaggcdhimcilaaGreatJPlaceCopy3
import Derived.Test.YtnaggcdhimcilaaGreatJAppendMore
namespace Go.Proofs.YtnaggcdhimcilaaGreat
open Go.RowKit Go.Joins
attribute [local go_sem ↓] Go.wp_at_zero Go.wp_at_succ

set_option maxRecDepth 100000 in
set_option maxHeartbeats 2000000 in
theorem l3Can_any (G c : Nat) (ns : List Nd) (cur : Array Value) (k : Int) (w : World) (hC : Cg w G ns cur) (hl : ns.length ≤ 4) :
    Calls Tryz.prog 22 #[.agg #[.slice (some ⟨G, 0, none⟩) ns.length c], .int .i64 k] w fun e w' => e = .returned (.bool (decide (0 ≤ k) && canB ns k.toNat)) ∧ Below w.heap.size w w' := by
  have L0 := below_alloc1 w (.cells #[.slice (some ⟨G, 0, none⟩) ns.length c] 32)
  have k0 := (Blk.made w 32 #[.slice (some ⟨G, 0, none⟩) ns.length c]).one.1
  have HC := hide (hC.on L0)
  have kw : IntKind.i64.wrap ((ns.length : Int) - 2) = (ns.length : Int) - 2 := by rw [IntKind.wrap_i64]; omega
  have CI := hide (l1In_any k 0 ((ns.length : Int) - 2) (w.alloc (.cells #[.slice (some ⟨G, 0, none⟩) ns.length c] 32)))
  clear hC
  by_cases hin : 0 ≤ k ∧ k ≤ (ns.length : Int) - 2
  · obtain ⟨kn, rfl⟩ : ∃ kn : Nat, k = (kn : Int) := ⟨k.toNat, by omega⟩
    obtain ⟨n, hn⟩ : ∃ n, ns[kn]? = some n := ⟨_, List.getElem?_eq_getElem (by omega)⟩
    obtain ⟨m, hm⟩ : ∃ m, ns[kn + 1]? = some m := ⟨_, List.getElem?_eq_getElem (by omega)⟩
    have n1 := (HC.out.blk.at (kn * 2 + 1)).trans (HC.out.at' kn n hn).2
    have m1 := (HC.out.blk.at ((kn + 1) * 2 + 1)).trans (HC.out.at' (kn + 1) m hm).2
    rw [decide_eq_true hin] at CI
    have HCA : Hid ((decide (0 ≤ (kn : Int)) && canB ns (kn : Int).toNat) = (decide (0 < n.ws.length) && decide (m.ws.length < 6))) := by
      unfold Hid
      rw [Int.toNat_natCast, canB_at hn hm, decide_eq_true (p := 0 ≤ (kn : Int)) (by omega), Bool.true_and]
    rw [HCA.out]
    have i1 : (0 : Int) ≤ (kn : Int) := by omega
    have i2 : (kn : Int) < (ns.length : Int) := by omega
    have i3 : (0 : Int) ≤ (kn : Int) + 1 := by omega
    have i4 : (kn : Int) + 1 < (ns.length : Int) := by omega
    have iw : IntKind.i64.wrap ((kn : Int) + 1) = (kn : Int) + 1 := by rw [IntKind.wrap_i64]; omega
    have it : ((kn : Int) + 1).toNat = kn + 1 := by omega
    clear hn hm hin
    by_cases h0 : 0 < n.ws.length
    · have z0 : (n.ws.length : Int) > 0 := by omega
      rw [decide_eq_true h0]
      by_cases h6 : m.ws.length < 6
      · have z6 : (m.ws.length : Int) < 6 := by omega
        rw [decide_eq_true h6]
        clear h0 h6
        go_enter Tryz.func22, Tryz.ntmps22
        go_wp2_with fail
        with_reducible refine CI.out.mono ?_
        rintro e w1 ⟨rfl, rfl⟩
        go_wp2
        go_ret
        exact ⟨by simp, L0⟩
      · have z6 : ¬ ((m.ws.length : Int) < 6) := by omega
        rw [decide_eq_false h6]
        clear h0 h6
        go_enter Tryz.func22, Tryz.ntmps22
        go_wp2_with fail
        with_reducible refine CI.out.mono ?_
        rintro e w1 ⟨rfl, rfl⟩
        go_wp2
        go_ret
        exact ⟨by simp [z6], L0⟩
    · have z0 : ¬ ((n.ws.length : Int) > 0) := by omega
      rw [decide_eq_false h0, Bool.false_and]
      clear h0
      go_enter Tryz.func22, Tryz.ntmps22
      go_wp2_with fail
      with_reducible refine CI.out.mono ?_
      rintro e w1 ⟨rfl, rfl⟩
      go_wp2
      go_ret
      exact ⟨rfl, L0⟩
  · have HNO : Hid ((decide (0 ≤ k) && canB ns k.toNat) = false) := by
      unfold Hid
      by_cases h0 : 0 ≤ k
      · rw [canB_end (by omega), Bool.and_false]
      · rw [decide_eq_false h0, Bool.false_and]
    rw [HNO.out]
    rw [decide_eq_false hin] at CI
    clear hin
    go_enter Tryz.func22, Tryz.ntmps22
    go_wp2_with fail
    with_reducible refine CI.out.mono ?_
    rintro e w1 ⟨rfl, rfl⟩
    go_wp2
    go_ret
    exact ⟨rfl, L0⟩
theorem flat6_one (us : List V) : ∀ u ∈ flat6 us, u.oneCell' = true := fun u hu => by
  simp only [flat6, List.mem_flatMap] at hu
  obtain ⟨x, _, hx⟩ := hu
  simp only [cells6, List.mem_cons, List.not_mem_nil, or_false] at hx
  rcases hx with rfl | rfl | rfl | rfl | rfl | rfl <;> rfl
theorem CRow.news {base : Nat} {w : World} {g c : Nat} {v : V} {r : List V} (h : CRow base w (.slice (some ⟨g, 0, none⟩) (r.length + 1) c) (v :: r)) : ∀ (j : Nat) u, (flat6 r)[j]? = some u → w.cell? ⟨g, 6 + j, none⟩ = some u := fun j u hu => by
  have hj := (List.getElem?_eq_some_iff.1 hu).1
  rw [flat6_len] at hj
  have := World.ownsRow.cellAt (n := r.length + 1) (by simpa using h.row) (6 + j) (by omega)
  rw [this]
  have e : flat6 (v :: r) = cells6 v ++ flat6 r := by simp [flat6]
  rw [e, List.getElem?_append_right (by simp [cells6])]
  simpa [cells6] using hu
theorem below_rows {w w1 w2 : World} {g : Nat} (h : Below w.heap.size w w1) (hg : w1.grownBy w2 (some g)) (hw : w.heap.size ≤ g) : Below w.heap.size w w2 :=
  ⟨hg.os.trans h.os, hg.tape.trans h.tape, hg.output.trans h.output, Nat.le_trans h.size hg.size, fun k hk => (hg.block k (Nat.lt_of_lt_of_le hk h.size) (by intro e; injection e with e; omega)).trans (h.block k hk)⟩
theorem own_not_node {w : World} {v : V} {G g : Nat} {cs : Array Value} (h : Own1 w 0 w.heap.size v) (hG : Blk w G 90 cs) (ha : v.a = some ⟨g, 0, none⟩) (hn : v.ts ≠ []) : g ≠ G := fun e => by
  subst e
  rcases h with q | ⟨g', _, e1, _, _, q3, _⟩
  · exact hn q
  · rw [ha] at e1
    injection e1 with e1
    injection e1 with e1
    subst e1
    exact absurd (blk_one q3 hG) (by decide)
theorem touch_trans {base : Nat} {w w1 w2 : World} (h : Turn (TouchC w base) w w1) (k : Turn (TouchC w1 base) w1 w2) : Turn (TouchC w base) w w2 :=
  ⟨k.os.trans h.os, k.tape.trans h.tape, k.output.trans h.output, Nat.le_trans h.size k.size, fun i hi hn => (k.block i (Nat.lt_of_lt_of_le hi h.size) (fun ⟨hb, cs, hc⟩ => hn ⟨hb, cs, by
    have e := h.block i hi hn
    rcases hc with hc | hc
    · exact .inl (e.symm.trans hc)
    · exact .inr (e.symm.trans hc)⟩)).trans (h.block i hi hn)⟩
/-- What l3Pass leaves. -/
def PassedC (w : World) (base G xc : Nat) (us : List Nd) (k : Nat) (e : Ending) (w' : World) : Prop :=
  ∃ us' : List Nd, e = .returned (.agg #[.slice (some ⟨G, 0, none⟩) us.length xc]) ∧ NL us' (goN us k) ∧ GRow base w' (.slice (some ⟨G, 0, none⟩) us.length xc) us' ∧ Turn (TouchC w base) w w'
end Go.Proofs.YtnaggcdhimcilaaGreat
