/- Contracts of the laws' small functions on versions: their size, their copy, whether two are the same. Condition: at most 1048576 tags where memory is made. -/
import Derived.Test.YtoechhbjfejmjaaDoorPasts
import Derived.Test.YtoechhbjfejmjaaDoorPastOk
namespace Go.Proofs.YtoechhbjfejmjaaDoor
open Go.RowKit Go.Joins

/-- The six cells of a version. -/
abbrev verC (k t u : Int) (a : Option Addr) (n c : Nat) (s : ByteArray) (g : Bool) : Array Value := #[.int .i64 k, .int .i64 t, .int .i64 u, .slice a n c, .string s, .bool g]
theorem Blk.six {w : World} {g : Nat} {T : TypeId} {a b c d e f : Value} (h : Blk w g T #[a, b, c, d, e, f]) :
    (w.cell? ⟨g, 0, none⟩ = some a ∧ w.cell? ⟨g, 1, none⟩ = some b ∧ w.cell? ⟨g, 2, none⟩ = some c ∧ w.cell? ⟨g, 3, none⟩ = some d ∧ w.cell? ⟨g, 4, none⟩ = some e ∧ w.cell? ⟨g, 5, none⟩ = some f) ∧
    (w.frozen? ⟨g, 0, none⟩ = false ∧ w.frozen? ⟨g, 1, none⟩ = false ∧ w.frozen? ⟨g, 2, none⟩ = false ∧ w.frozen? ⟨g, 3, none⟩ = false ∧ w.frozen? ⟨g, 4, none⟩ = false ∧ w.frozen? ⟨g, 5, none⟩ = false) :=
  ⟨⟨h.at 0, h.at 1, h.at 2, h.at 3, h.at 4, h.at 5⟩, h.loose 0, h.loose 1, h.loose 2, h.loose 3, h.loose 4, h.loose 5⟩
theorem below_set6 {w w' : World} {n g : Nat} (h : Below n w w') (hg : n ≤ g) (a b c d e f : Value) :
    Below n w ((((((w'.setCell ⟨g, 0, none⟩ a).setCell ⟨g, 1, none⟩ b).setCell ⟨g, 2, none⟩ c).setCell ⟨g, 3, none⟩ d).setCell ⟨g, 4, none⟩ e).setCell ⟨g, 5, none⟩ f) :=
  (((((h.setCell hg a).setCell hg b).setCell hg c).setCell hg d).setCell hg e).setCell hg f

set_option maxHeartbeats 1000000 in
theorem szVer_fits (k t u : Int) (a : Option Addr) (n c : Nat) (s : ByteArray) (g : Bool) (left : Int) (w : World) (h0 : left ≤ 1048576) (hn : (n : Int) + s.size ≤ left) :
    Calls Tryd.prog 5 #[.agg (verC k t u a n c s g), .int .i64 left] w fun e w' => e = .returned (.int .i64 (left - n - s.size)) ∧ Below w.heap.size w w' := by
  have S0 := (Inv.start w).box 28 (verC k t u a n c s g)
  have h1 : ¬ (left - (n : Int) < 0) := by omega
  have h2 : ¬ (left - (n : Int) - (s.size : Int) < 0) := by omega
  have h3 : 0 ≤ left := by omega
  go_enter Tryd.func5, Tryd.ntmps5
  go_wp2_with fail
  refine (szPast_fits a n c left _ h0 (by omega)).mono ?_
  rintro e w1 ⟨rfl, hb1⟩
  have S1 := S0.on hb1
  have k1 := (S1.nth 0 rfl).six.1
  clear S0
  go_wp2
  go_ret
  exact ⟨rfl, S1.below⟩
set_option maxHeartbeats 1000000 in
theorem szVer_not (k t u : Int) (a : Option Addr) (n c : Nat) (s : ByteArray) (g : Bool) (left : Int) (w : World) (h0 : left ≤ 1048576) (h00 : 0 ≤ left) (hm : n ≤ 9223372036854775807) (hs : s.size ≤ 9223372036854775807) (hn : left < (n : Int) + s.size) :
    Calls Tryd.prog 5 #[.agg (verC k t u a n c s g), .int .i64 left] w fun e w' => e = .returned (.int .i64 (-1)) ∧ Below w.heap.size w w' := by
  have S0 := (Inv.start w).box 28 (verC k t u a n c s g)
  by_cases hp : (n : Int) ≤ left
  · have h1 : ¬ (left - (n : Int) < 0) := by omega
    have h2 : left - (n : Int) - (s.size : Int) < 0 := by omega
    go_enter Tryd.func5, Tryd.ntmps5
    go_wp2_with fail
    refine (szPast_fits a n c left _ h0 hp).mono ?_
    rintro e w1 ⟨rfl, hb1⟩
    have S1 := S0.on hb1
    have k1 := (S1.nth 0 rfl).six.1
    clear S0
    go_wp2
    go_ret
    exact ⟨rfl, S1.below⟩
  · go_enter Tryd.func5, Tryd.ntmps5
    go_wp2_with fail
    refine (szPast_not a n c left _ h0 h00 hm (by omega)).mono ?_
    rintro e w1 ⟨rfl, hb1⟩
    have S1 := S0.on hb1
    clear S0
    go_wp2
    go_ret
    exact ⟨rfl, S1.below⟩

/-- What toVer leaves. -/
def CopiedV (w : World) (k t u : Int) (ts : List (Int × Int)) (s : ByteArray) (b : Bool) (e : Ending) (w' : World) : Prop :=
  ∃ (g : Nat) (cur : Array Value), e = .returned (.agg (verC k t u (some ⟨g, 0, none⟩) ts.length ts.length s b)) ∧ w.heap.size ≤ g ∧ Blk w' g 31 cur ∧ cur.size = ts.length * 2 ∧ (∀ i x, ts[i]? = some x → TagAt cur i x) ∧ Below w.heap.size w w'

theorem Inv.put0 {w w1 : World} {n g i : Nat} {t : TypeId} {cs : Array Value} {bs : List (Nat × TypeId × Array Value)} (h : Inv w n ((g, t, cs) :: bs) w1) (hd : ∀ x ∈ bs, x.1 ≠ g) (u : Value) : Inv w n ((g, t, cs.setIfInBounds i u) :: bs) (w1.setCell ⟨g, i, none⟩ u) :=
  ⟨h.below.setCell (h.blk _ (List.mem_cons_self ..)).1 u, by simpa [World.setCell] using h.room, fun x hx => by
    rcases List.mem_cons.1 hx with rfl | hx
    · exact ⟨(h.blk _ (List.mem_cons_self ..)).1, (h.blk _ (List.mem_cons_self ..)).2.1, (h.blk _ (List.mem_cons_self ..)).2.2.put i u⟩
    · have := h.blk x (List.mem_cons_of_mem _ hx)
      exact ⟨this.1, this.2.1, this.2.2.aside (hd x hx) u⟩⟩

set_option maxRecDepth 100000 in
set_option maxHeartbeats 2000000 in
theorem toVer_any (k t u : Int) (a : Option Addr) (c : Nat) (ts : List (Int × Int)) (s : ByteArray) (b : Bool) (w : World) (hn : ts.length ≤ 1048576) (ht : Tg w w.heap.size a ts) :
    Calls Tryd.prog 7 #[.agg (verC k t u a ts.length c s b)] w (CopiedV w k t u ts s b) := by
  have S0 := (((Inv.start w).box 28 (verC k t u a ts.length c s b)).box 36 (verC 0 0 0 none 0 0 ⟨#[]⟩ false)).box 36 (verC k 0 0 none 0 0 ⟨#[]⟩ false)
  simp only [World.size_alloc] at S0
  have hd : ∀ x ∈ [(w.heap.size + 1, 36, verC 0 0 0 none 0 0 ⟨#[]⟩ false), (w.heap.size, 28, verC k t u a ts.length c s b)], x.1 ≠ w.heap.size + 1 + 1 := by simp; omega
  go_enter Tryd.func7, Tryd.ntmps7
  go_wp2_with fail
  generalize (((w.alloc (.cells (verC k t u a ts.length c s b) 28)).alloc (.cells (verC 0 0 0 none 0 0 ⟨#[]⟩ false) 36)).alloc (.cells (verC k 0 0 none 0 0 ⟨#[]⟩ false) 36)) = W at S0 ⊢
  refine (toTag_any _ _ _).mono ?_
  rintro e w1 ⟨rfl, hb1⟩
  have S1 := S0.on hb1
  have k1 := (S1.nth 0 rfl).six
  have k2 := (S1.nth 2 rfl).six
  have S2 := ((S1.put0 (i := 1) hd (.int .i64 t)).put0 (i := 2) hd (.int .i64 u))
  simp only [List.setIfInBounds_toArray, List.set_cons_zero, List.set_cons_succ] at S2
  clear S0 S1 hb1
  go_wp2_with fail
  generalize ((w1.setCell ⟨w.heap.size + 1 + 1, 1, none⟩ (.int .i64 t)).setCell ⟨w.heap.size + 1 + 1, 2, none⟩ (.int .i64 u)) = W2 at S2 ⊢
  clear k1 k2
  refine (toPast_any a c ts W2 hn ((ht.on S2.below).up S2.base)).mono ?_
  rintro e w3 ⟨g, cur, rfl, hg, hB, hsz, hcur, hb3⟩
  have hr := S2.room
  have hbase := S2.base
  have S3 := S2.on hb3
  have k1 := (S3.nth 0 rfl).six
  have k2 := (S3.nth 1 rfl).six
  have k3 := (S3.nth 2 rfl).six
  have hl := S3.below
  have HC := hide hcur
  clear hcur S2 S3 ht
  go_wp2
  refine bodyPost_ret (v := .agg (verC k t u (some ⟨g, 0, none⟩) ts.length ts.length s b)) (by simp [results, Tryd.results7, go_sem, k2]) rfl ?_
  exact ⟨g, cur, rfl, by omega, (((((((((hB.aside (by simp; omega) _).aside (by simp; omega) _).aside (by simp; omega) _).aside (by simp; omega) _).aside (by simp; omega) _).aside (by simp; omega) _).aside (by simp; omega) _).aside (by simp; omega) _).aside (by simp; omega) _), hsz, HC.out, below_set6 (((hl.setCell (by simp; omega) _).setCell (by simp; omega) _).setCell (by simp; omega) _) (by omega) _ _ _ _ _ _⟩

set_option maxRecDepth 100000 in
set_option maxHeartbeats 2000000 in
theorem eqVer_same (k t u : Int) (a a' : Option Addr) (c c' : Nat) (ts : List (Int × Int)) (s : ByteArray) (b : Bool) (w : World) (hn : ts.length ≤ 1048576) (ht : Tg w w.heap.size a ts) (hu : Tg w w.heap.size a' ts) :
    Calls Tryd.prog 9 #[.agg (verC k t u a ts.length c s b), .agg (verC k t u a' ts.length c' s b)] w fun e w' => e = .returned (.bool true) ∧ Below w.heap.size w w' := by
  have S0 := ((Inv.start w).box 36 (verC k t u a ts.length c s b)).box 36 (verC k t u a' ts.length c' s b)
  simp only [World.size_alloc] at S0
  have he : eqB t u t u = true := by simp [eqB]
  go_enter Tryd.func9, Tryd.ntmps9
  go_wp2_with fail
  refine (eqTag_any _ _ _ _ _).mono ?_
  rintro e w1 ⟨rfl, hb1⟩
  rw [he]
  have S1 := S0.on hb1
  have k1 := (S1.nth 0 rfl).six.1
  have k2 := (S1.nth 1 rfl).six.1
  clear S0 hb1
  go_wp2_with fail
  refine (eqPast_any _ _ _ _ ts ts _ hn hn ((ht.on S1.below).up S1.base) ((hu.on S1.below).up S1.base)).mono ?_
  rintro e w2 ⟨rfl, hb2⟩
  rw [decide_eq_true rfl]
  have S2 := S1.on hb2
  clear k1 k2 S1 hb2
  have k1 := (S2.nth 0 rfl).six.1
  have k2 := (S2.nth 1 rfl).six.1
  go_wp2
  go_ret
  exact ⟨rfl, S2.below⟩
end Go.Proofs.YtoechhbjfejmjaaDoor
