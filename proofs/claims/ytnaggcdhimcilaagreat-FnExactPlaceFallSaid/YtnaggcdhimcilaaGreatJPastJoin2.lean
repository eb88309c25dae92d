/- Contract of the laws' function that writes a number as a text. Condition: the number is at least 1 and at most 8388000. -/
import Derived.Test.YtnaggcdhimcilaaGreatJVerOk0
import Derived.Laws.BytesString
import Derived.Laws.Concat
import Derived.Test.YtnaggcdhimcilaaGreatJPastOk
import Derived.Deep.AppendLies
namespace Go.Proofs.YtnaggcdhimcilaaGreat
open Go.RowKit Go.Joins

/-- The digits of m, ahead of s. -/
def mtx : Nat → Int → ByteArray → ByteArray
  | 0, _, s => s
  | f + 1, m, s => if m ≤ 0 then s else mtx f (m / 10) (⟨#[UInt8.ofNat (48 + m % 10).toNat]⟩ ++ s)
/-- The text that tells the number k. -/
def markT (k : Int) : ByteArray := ⟨#[109]⟩ ++ mtx k.toNat k ⟨#[]⟩
theorem mtx_zero (f : Nat) (s : ByteArray) : mtx f 0 s = s := by cases f <;> rfl
theorem mtx_step {f : Nat} {m : Int} {s : ByteArray} (hm : 0 < m) (hf : m.toNat ≤ f) : ∃ f', (m / 10).toNat ≤ f' ∧ mtx f m s = mtx f' (m / 10) (⟨#[UInt8.ofNat (48 + m % 10).toNat]⟩ ++ s) := by
  match f with
  | 0 => omega
  | f' + 1 =>
    refine ⟨f', by omega, ?_⟩
    rw [mtx, if_neg (by omega)]

set_option maxRecDepth 100000 in
set_option maxHeartbeats 1000000 in
theorem markText_any (k : Int) (w : World) (h1 : 1 ≤ k) (h2 : k ≤ 8388000) :
    Calls Tryz.prog 82 #[.int .i64 k] w fun e w' => e = .returned (.string (markT k)) ∧ Below w.heap.size w w' := by
  have h0 : ¬ k ≤ 0 := by omega
  go_enter Tryz.func82, Tryz.ntmps82
  go_wp2
  go_loopw [0, 3] (fun kk o wr => ∃ (m : Int) (s : ByteArray), 0 ≤ m ∧ (s.size : Int) + m ≤ k ∧ kk = .int .i64 m ∧ o = .string s ∧ Hid (∃ f, m.toNat ≤ f ∧ mtx k.toNat k ⟨#[]⟩ = mtx f m s) ∧ Below w.heap.size w wr) (fun kk _ _ => (intOf kk).toNat)
  case atStart => exact ⟨k, _, by omega, by simp [ByteArray.size], rfl, rfl, ⟨_, Nat.le_refl _, rfl⟩, Below.refl _ _⟩
  case round =>
    obtain ⟨m, s, hm, hmk, rfl, rfl, hE, hL⟩ := hrel
    by_cases hlt : m > 0
    · have hr0 : 0 ≤ m % 10 ∧ m % 10 < 10 := by omega
      have hsz : (s.size : Int) ≤ 8388608 := by omega
      have hone : ((ByteArray.mk #[UInt8.ofNat (48 + m % 10).toNat]).size : Int) ≤ 8388608 := by simp [ByteArray.size]
      have B0 := Blk.made wr 5 #[.int .u8 (48 + m % 10)]
      have hcv : (convert 145 9 (.slice (some ⟨wr.heap.size, 0, none⟩) 1 1)).run Tryz.prog (wr.alloc (.cells #[.int .u8 (48 + m % 10)] 5)) = .ok (.string ⟨#[UInt8.ofNat (48 + m % 10).toNat]⟩) (wr.alloc (.cells #[.int .u8 (48 + m % 10)] 5)) := by
        rw [run_convert_bytes_string _ _ _ 5 _ _ _ Tryz.underlying145 Tryz.underlying5 Tryz.underlying9, run_bytesToString _ _ 1 1 [48 + m % 10] (by go_simp)]
        rfl
      have hadd := fun W : World => run_string_add (P := Tryz.prog) (w := W) (ByteArray.mk #[UInt8.ofNat (48 + m % 10).toNat]) s hone hsz
      have HE : Hid (∃ f, (m / 10).toNat ≤ f ∧ mtx k.toNat k ⟨#[]⟩ = mtx f (m / 10) (⟨#[UInt8.ofNat (48 + m % 10).toNat]⟩ ++ s)) := by
        obtain ⟨f, hf, e⟩ := hE.out
        obtain ⟨f', hf', e'⟩ := mtx_step (s := s) hlt hf
        exact ⟨f', hf', e.trans e'⟩
      have H9 : Hid (0 ≤ m / 10 ∧ ((ByteArray.mk #[UInt8.ofNat (48 + m % 10).toNat] ++ s).size : Int) + m / 10 ≤ k) := by
        refine ⟨by omega, ?_⟩
        have e1 : (ByteArray.mk #[UInt8.ofNat (48 + m % 10).toNat]).size = 1 := rfl
        rw [ByteArray.size_append, e1]
        omega
      go_wp2
      exact ⟨⟨m / 10, _, H9.out.1, H9.out.2, rfl, rfl, HE, hL.alloc hL.size _⟩, by simp [intOf]; omega⟩
    · have hm0 : m = 0 := by omega
      subst hm0
      have HE : Hid (mtx k.toNat k ⟨#[]⟩ = s) := by
        obtain ⟨f, _, e⟩ := hE.out
        show mtx k.toNat k ⟨#[]⟩ = s
        rw [e, mtx_zero]
      go_wp2
      go_ret
      exact ⟨congrArg (fun x => Ending.returned (.string x)) (show _ = markT k by unfold markT; rw [HE.out]), hL⟩
end Go.Proofs.YtnaggcdhimcilaaGreat
/- Contracts of the laws' functions that write marks into a vector's own memory and look whether they stand. Condition: at most 1048576 tags, marks within bounds. -/
namespace Go.Proofs.YtnaggcdhimcilaaGreat
open Go.RowKit Go.Joins

/-- The marks that n tags bear, from number k on. -/
def marksL (k : Int) (n : Nat) : List (Int × Int) := (List.range n).map fun (i : Nat) => (k + 2 * (i : Int), k + 2 * (i : Int) + 1)
theorem marksL_len (k : Int) (n : Nat) : (marksL k n).length = n := by simp [marksL]
theorem marksL_at (k : Int) (n i : Nat) (h : i < n) : (marksL k n)[i]? = some (k + 2 * (i : Int), k + 2 * (i : Int) + 1) := by simp [marksL, h]

theorem int_val {a b : Int} (h : a = b) : Value.int .i64 a = .int .i64 b := by rw [h]
theorem grown_own {w w' : World} {g i : Nat} (h : w.grownBy w' (some g)) (u : Value) : w.grownBy (w'.setCell ⟨g, i, none⟩ u) (some g) :=
  ⟨h.os, h.tape, h.output, by simpa [World.setCell] using h.size, fun k hk hne => (Below.heap_setCell w' _ u k (by rintro rfl; exact hne rfl)).trans (h.block k hk hne)⟩
/-- One known block has turned; the others are as they were. -/
theorem Inv.turn {w w1 w2 : World} {n g : Nat} {bs bs' : List (Nat × TypeId × Array Value)} (h : Inv w n bs w1) (hg : w1.grownBy w2 (some g)) (hw : w.heap.size ≤ g)
    (hs : ∀ x ∈ bs', (x ∈ bs ∧ x.1 ≠ g) ∨ (x.1 = g ∧ g < n ∧ Blk w2 g x.2.1 x.2.2)) : Inv w n bs' w2 := by
  refine ⟨h.below.grown hg h.below.size (fun k hk => by injection hk; omega), Nat.le_trans h.room hg.size, fun x hx => ?_⟩
  rcases hs x hx with ⟨hm, hne⟩ | ⟨rfl, hlt, hb⟩
  · exact ⟨(h.blk x hm).1, (h.blk x hm).2.1, (h.blk x hm).2.2.kept hg (by intro e; injection e; omega)⟩
  · exact ⟨hw, hlt, hb⟩

/-- What marking leaves: the marks in the row's own block; no other block has turned. -/
def MarkedS (w : World) (g : Nat) (T : TypeId) (size n : Nat) (k : Int) (e : Ending) (w' : World) : Prop :=
  e = .returned (.int .i64 (k + 2 * (n : Int))) ∧ (∃ cur', Blk w' g T cur' ∧ cur'.size = size ∧ ∀ i x, (marksL k n)[i]? = some x → TagAt cur' i x) ∧ w.grownBy w' (some g)

set_option maxRecDepth 100000 in
set_option maxHeartbeats 1000000 in
theorem markTagS_any (g c n : Nat) (T : TypeId) (cur : Array Value) (k : Int) (w : World) (hB : Blk w g T cur) (hs : n * 2 ≤ cur.size) (hn : n ≤ 1048576) (hk0 : 0 ≤ k) (hk : k ≤ 1000000000) :
    Calls Tryz.prog 81 #[.slice (some ⟨g, 0, none⟩) n c, .int .i64 k] w (MarkedS w g T cur.size n k) := by
  go_enter Tryz.func81, Tryz.ntmps81
  go_wp2
  go_loopw [1, 5] (fun v i wr => ∃ (j : Nat) (cr : Array Value), j ≤ n ∧ i = .int .i64 (j : Int) ∧ v = .int .i64 (k + 2 * (j : Int)) ∧ Blk wr g T cr ∧ cr.size = cur.size ∧ (∀ i x, i < j → (marksL k n)[i]? = some x → TagAt cr i x) ∧ w.grownBy wr (some g)) (fun _ i _ => n - (intOf i).toNat)
  case atStart => exact ⟨0, cur, Nat.zero_le _, rfl, by simp, hB, rfl, fun i x hi => absurd hi (by omega), World.grownBy.refl _ _⟩
  case round =>
    obtain ⟨j, cr, hj, rfl, rfl, hC, hsz, hall, hG⟩ := hrel
    by_cases hlt : j < n
    · have hs0 : j * 2 < cr.size := by omega
      have hs1 : j * 2 + 1 < cr.size := by omega
      have HA := hide (tagAt_step hs1 (marksL_at k n j hlt) hall)
      have HZ := hide hsz
      have d0 : wr.cell? ⟨g, j * 2, none⟩ = some cr[j * 2] := by rw [hC.at]; exact Array.getElem?_eq_getElem hs0
      have d1 : wr.cell? ⟨g, j * 2 + 1, none⟩ = some cr[j * 2 + 1] := by rw [hC.at]; exact Array.getElem?_eq_getElem hs1
      have f0 := hC.loose (j * 2)
      have f1 := hC.loose (j * 2 + 1)
      clear hall hsz
      go_wp2
      exact ⟨⟨j + 1, _, by omega, by go_num, int_val (by omega), (hC.put _ _).put _ _, by simp; exact HZ.out, HA.out, grown_own (grown_own hG _) _⟩, by simp [intOf]; omega⟩
    · have hjn : j = n := by omega
      subst hjn
      clear hlt
      have HA := hide hall
      clear hall
      go_wp2
      go_ret
      exact ⟨rfl, ⟨cr, hC, hsz, fun i x hx => HA.out i x (by have := (List.getElem?_eq_some_iff.1 hx).1; rw [marksL_len] at this; exact this) hx⟩, hG⟩

set_option maxRecDepth 100000 in
set_option maxHeartbeats 1000000 in
theorem heldTagS_any (a : Option Addr) (c n : Nat) (k : Int) (w : World) (hn : n ≤ 1048576) (hk0 : 0 ≤ k) (hk : k ≤ 1000000000) (ht : Tg w w.heap.size a (marksL k n)) :
    Calls Tryz.prog 84 #[.slice a n c, .int .i64 k] w fun e w' => e = .returned (.int .i64 (k + 2 * (n : Int))) ∧ w = w' := by
  go_enter Tryz.func84, Tryz.ntmps84
  go_wp2
  go_loop [1, 5] (fun v i => ∃ j : Nat, j ≤ n ∧ i = .int .i64 (j : Int) ∧ v = .int .i64 (k + 2 * (j : Int))) (fun _ i => n - (intOf i).toNat)
  case atStart => exact ⟨0, Nat.zero_le _, rfl, by simp⟩
  case round =>
    obtain ⟨j, hj, rfl, rfl⟩ := hrel
    by_cases hlt : j < n
    · rcases ht with h0 | ⟨b, off, rfl, hb, hx⟩
      · have := marksL_len k n; rw [h0] at this; simp at this; omega
      · obtain ⟨c0, c1⟩ := hx j _ (marksL_at k n j hlt)
        simp only at c0 c1
        clear hx
        go_wp2
        exact ⟨⟨j + 1, by omega, by go_num, int_val (by omega)⟩, by simp [intOf]; omega⟩
    · have hjn : j = n := by omega
      subst hjn
      clear hlt
      go_wp2
      go_ret
      exact ⟨rfl, rfl⟩

end Go.Proofs.YtnaggcdhimcilaaGreat
/- What it is that every block of tags stays as it is. Of whatever program that has tags. -/
namespace Go.Proofs.YtnaggcdhimcilaaGreat
open Go.RowKit Go.Joins

/-- Every block of tags stays as it is. -/
def Tk (w w' : World) : Prop := ∀ g cur, Blk w g 91 cur → Blk w' g 91 cur
theorem Tk.below {w w' : World} (h : Below w.heap.size w w') : Tk w w' := fun _ _ hb => hb.on h
theorem Tk.drew (w : World) : Tk w w.drew := fun _ _ hb => hb
theorem Tk.alloc (w : World) (o : Obj) : Tk w (w.alloc o) := fun _ _ hb => hb.more o
theorem Tk.trans {a b c : World} (h : Tk a b) (k : Tk b c) : Tk a c := fun g cur hb => k g cur (h g cur hb)
theorem blk_type {w : World} {g : Nat} {T T' : TypeId} {cs cs' : Array Value} (h : Blk w g T cs) (h' : Blk w g T' cs') : T = T' ∧ cs = cs' := by
  unfold Blk at h h'
  rw [h] at h'
  injection h' with h'
  injection h' with h1 h2 h3
  exact ⟨h2, h1⟩
theorem Tk.set {w : World} {p : Addr} {T : TypeId} {cs : Array Value} (hb : Blk w p.block T cs) (hT : T ≠ 91) (u : Value) : Tk w (w.setCell p u) := fun _ _ h => h.aside (fun e => by
  subst e
  exact hT (blk_type hb h).1) u
theorem Tk.grown {w w' : World} {row : Option Nat} (hg : w.grownBy w' row) (hr : ∀ r, row = some r → ∃ T cs, Blk w r T cs ∧ T ≠ 91) : Tk w w' := fun g _ h => h.kept hg (fun e => by
  obtain ⟨T, cs, hb, hT⟩ := hr g e
  exact hT (blk_type hb h).1)
end Go.Proofs.YtnaggcdhimcilaaGreat
/- Rows of versions in memory of their own: how they are kept, marked, and how the marks are found again. Condition: as many versions and tags as a law lets by. -/
namespace Go.Proofs.YtnaggcdhimcilaaGreat
open Go.RowKit Go.Joins

/-- Nothing has turned but in blocks of P. -/
structure Turn (P : Nat → Prop) (w w' : World) : Prop where
  os : w'.os = w.os
  tape : w'.tape = w.tape
  output : w'.output = w.output
  size : w.heap.size ≤ w'.heap.size
  block : ∀ k, k < w.heap.size → ¬ P k → w'.heap[k]? = w.heap[k]?
theorem Turn.refl (P : Nat → Prop) (w : World) : Turn P w w := ⟨rfl, rfl, rfl, Nat.le_refl _, fun _ _ _ => rfl⟩
theorem Turn.of {P : Nat → Prop} {w w' : World} {row : Option Nat} (h : w.grownBy w' row) (hr : ∀ g, row = some g → P g) : Turn P w w' := ⟨h.os, h.tape, h.output, h.size, fun k hk hn => h.block k hk (fun e => hn (hr k e.symm))⟩
theorem Turn.below {P : Nat → Prop} {w w' : World} (h : Below w.heap.size w w') : Turn P w w' := ⟨h.os, h.tape, h.output, h.size, fun k hk _ => h.block k hk⟩
theorem Turn.trans {P : Nat → Prop} {a b c : World} (h : Turn P a b) (k : Turn P b c) : Turn P a c :=
  ⟨k.os.trans h.os, k.tape.trans h.tape, k.output.trans h.output, Nat.le_trans h.size k.size, fun i hi hn => (k.block i (Nat.lt_of_lt_of_le hi h.size) hn).trans (h.block i hi hn)⟩
theorem Turn.set {P : Nat → Prop} {w w' : World} (h : Turn P w w') {p : Addr} (hp : P p.block) (u : Value) : Turn P w (w'.setCell p u) :=
  ⟨h.os, h.tape, h.output, by simpa [World.setCell] using h.size, fun k hk hn => (Below.heap_setCell w' p u k (fun e => hn (e ▸ hp))).trans (h.block k hk hn)⟩
theorem Blk.turned {P : Nat → Prop} {w w' : World} {g : Nat} {t : TypeId} {cs : Array Value} (h : Blk w g t cs) (ht : Turn P w w') (hg : ¬ P g) : Blk w' g t cs := (ht.block g h.inside hg).trans h
theorem below_turned {P : Nat → Prop} {n : Nat} {w w1 w2 : World} (h : Below n w w1) (ht : Turn P w1 w2) (hn : n ≤ w1.heap.size) (hp : ∀ g, P g → n ≤ g) : Below n w w2 :=
  ⟨ht.os.trans h.os, ht.tape.trans h.tape, ht.output.trans h.output, Nat.le_trans h.size ht.size, fun k hk => (ht.block k (by omega) (fun hP => by have := hp k hP; omega)).trans (h.block k hk)⟩
theorem Inv.turned {P : Nat → Prop} {w w1 w2 : World} {n : Nat} {bs : List (Nat × TypeId × Array Value)} (h : Inv w n bs w1) (ht : Turn P w1 w2) (hw : ∀ g, P g → w.heap.size ≤ g) (hs : ∀ x ∈ bs, ¬ P x.1) : Inv w n bs w2 :=
  ⟨below_turned h.below ht h.below.size hw, Nat.le_trans h.room ht.size, fun x hx => ⟨(h.blk x hx).1, (h.blk x hx).2.1, (h.blk x hx).2.2.turned ht (hs x hx)⟩⟩

/-- A version's causes: none, or in a block of their own from B on and below U. -/
def Own1 (w : World) (B U : Nat) (v : V) : Prop :=
  v.ts = [] ∨ ∃ (g : Nat) (cur : Array Value), v.a = some ⟨g, 0, none⟩ ∧ B ≤ g ∧ g < U ∧ Blk w g 91 cur ∧ v.ts.length * 2 ≤ cur.size ∧ ∀ i x, v.ts[i]? = some x → TagAt cur i x
theorem Own1.turned {P : Nat → Prop} {w w' : World} {B U : Nat} {v : V} (h : Own1 w B U v) (ht : Turn P w w') (hp : ∀ g, v.a = some ⟨g, 0, none⟩ → B ≤ g → g < U → v.ts ≠ [] → ¬ P g) : Own1 w' B U v := by
  by_cases h0 : v.ts = []
  · exact .inl h0
  · rcases h with h | ⟨g, cur, h1, h2, h3, h4, h5, h6⟩
    · exact .inl h
    · exact .inr ⟨g, cur, h1, h2, h3, h4.turned ht (hp g h1 h2 h3 h0), h5, h6⟩
theorem Own1.on {w w' : World} {B U : Nat} {v : V} (h : Own1 w B U v) (hb : Below w.heap.size w w') : Own1 w' B U v := h.turned (P := fun _ => False) (.below hb) (fun _ _ _ _ _ h => h)
theorem Own1.wide {w : World} {B U U' : Nat} {v : V} (h : Own1 w B U v) (hu : U ≤ U') : Own1 w B U' v := by
  rcases h with h | ⟨g, cur, h1, h2, h3, h4, h5, h6⟩
  · exact .inl h
  · exact .inr ⟨g, cur, h1, h2, by omega, h4, h5, h6⟩
theorem Own1.tg {w : World} {B U : Nat} {v : V} (h : Own1 w B U v) : Tg w w.heap.size v.a v.ts := by
  rcases h with h | ⟨g, cur, h1, h2, h3, h4, h5, h6⟩
  · exact .inl h
  · rw [h1]; exact Tg.of h4 h4.inside h6

/-- A row of versions in a block of its own, the causes of each in another. -/
structure ORow (w : World) (B U G : Nat) (vs : List V) (cur : Array Value) : Prop where
  blk : Blk w G 96 cur
  lo : B ≤ G
  hi : G < U
  size : vs.length * 6 ≤ cur.size
  at' : ∀ (i : Nat) v, vs[i]? = some v → VerAt cur i v
  own : ∀ (i : Nat) v, vs[i]? = some v → Own1 w B U v
  apart : ∀ (i j : Nat) v v', i ≠ j → vs[i]? = some v → vs[j]? = some v' → v.ts ≠ [] → v'.ts ≠ [] → v.a ≠ v'.a
theorem ver_ne_tag : (96 : TypeId) ≠ 91 := by decide
theorem blk_one {w : World} {g : Nat} {T T' : TypeId} {cs cs' : Array Value} (h : Blk w g T cs) (h' : Blk w g T' cs') : T = T' := (blk_type h h').1
theorem Own1.tk {w w' : World} {B U : Nat} {v : V} (h : Own1 w B U v) (hk : Tk w w') : Own1 w' B U v := by
  rcases h with h | ⟨g, cur, h1, h2, h3, h4, h5, h6⟩
  · exact .inl h
  · exact .inr ⟨g, cur, h1, h2, h3, hk _ _ h4, h5, h6⟩
section
variable {w w' : World} {B U G : Nat} {vs : List V} {cur : Array Value} {P : Nat → Prop}
theorem ORow.turned (h : ORow w B U G vs cur) (ht : Turn P w w') (hp : ∀ g, B ≤ g → g < U → ¬ P g) : ORow w' B U G vs cur :=
  ⟨h.blk.turned ht (hp G h.lo h.hi), h.lo, h.hi, h.size, h.at', fun i v hi => (h.own i v hi).turned ht (fun g _ h1 h2 _ => hp g h1 h2), h.apart⟩
theorem ORow.on (h : ORow w B U G vs cur) (hb : Below w.heap.size w w') : ORow w' B U G vs cur := h.turned (P := fun _ => False) (.below hb) (fun _ _ _ h => h)
theorem ORow.wide (h : ORow w B U G vs cur) {U' : Nat} (hu : U ≤ U') : ORow w B U' G vs cur := ⟨h.blk, h.lo, Nat.lt_of_lt_of_le h.hi hu, h.size, h.at', fun i v hi => (h.own i v hi).wide hu, h.apart⟩
theorem ORow.vg (h : ORow w B U G vs cur) : Vg w w.heap.size (some ⟨G, 0, none⟩) vs :=
  .inr ⟨G, 0, rfl, h.blk.inside, fun i v hi => by
    obtain ⟨h0, h1, h2, h3, h4, h5⟩ := h.at' i v hi
    refine ⟨⟨?_, ?_, ?_, ?_, ?_, ?_⟩, (h.own i v hi).tg⟩
    all_goals
      rw [Nat.zero_add, h.blk.at]
      assumption⟩
end

/-- How many marks a version bears. -/
def wt (v : V) : Int := 5 + 2 * (v.ts.length : Int)
def wts (vs : List V) : Int := (vs.map wt).sum
theorem wts_step {vs : List V} {j : Nat} {v : V} (h : vs[j]? = some v) : wts (vs.take (j + 1)) = wts (vs.take j) + wt v := by
  unfold wts
  rw [List.take_add_one, h]
  simp
theorem wts_pos (vs : List V) : 0 ≤ wts vs := by
  induction vs with
  | nil => simp [wts]
  | cons v r ih => unfold wts at *; simp [wt]; omega
theorem wts_le (vs : List V) (j : Nat) : wts (vs.take j) ≤ wts vs := by
  have e : wts vs = wts (vs.take j) + wts (vs.drop j) := by
    unfold wts
    rw [← List.sum_append, ← List.map_append, List.take_append_drop]
  have := wts_pos (vs.drop j)
  omega
theorem wts_all (vs : List V) : wts (vs.take vs.length) = wts vs := by rw [List.take_length]
theorem wts_tot (vs : List V) : wts vs ≤ 5 * (vs.length : Int) + 2 * (tot vs : Int) := by
  induction vs with
  | nil => simp [wts, tot]
  | cons v r ih => unfold wts tot at *; simp [wt] at *; omega
/-- A version that bears marks from number k on. -/
def mkV (k : Int) (v : V) : V := ⟨k, k + 1, k + 1 + 1, v.a, v.c, marksL (k + 1 + 1 + 1) v.ts.length, markT (k + 1 + 1 + 1 + 2 * (v.ts.length : Int)), (k + 1 + 1 + 1 + 2 * (v.ts.length : Int) + 1) % 3 == 0⟩
def mkVs : Int → List V → List V
  | _, [] => []
  | k, v :: r => mkV k v :: mkVs (k + wt v) r
theorem mkVs_len (k : Int) (vs : List V) : (mkVs k vs).length = vs.length := by
  induction vs generalizing k with
  | nil => rfl
  | cons v r ih => simp [mkVs, ih]
theorem mkVs_at (k : Int) (vs : List V) (j : Nat) : (mkVs k vs)[j]? = (vs[j]?).map (mkV (k + wts (vs.take j))) := by
  induction vs generalizing k j with
  | nil => simp [mkVs]
  | cons v r ih =>
    cases j with
    | zero => simp [mkVs, wts]
    | succ j =>
      simp only [mkVs, List.getElem?_cons_succ, ih, List.take_succ_cons]
      congr 1
      funext x
      unfold wts
      simp [Int.add_assoc]

/-- One version of a row turned: its own cells, and its causes' block. -/
theorem ORow.turn1 {w w' : World} {B U G j : Nat} {l : List V} {cur cur' : Array Value} {v v' : V} (h : ORow w B U G l cur) (hj : l[j]? = some v) (hb : Blk w' G 96 cur') (hs : cur'.size = cur.size)
    (hv : VerAt cur' j v') (ho : ∀ i x, i ≠ j → VerAt cur i x → VerAt cur' i x) (ha : v'.a = v.a) (hl : v'.ts.length = v.ts.length) (hown : Own1 w' B U v')
    {P : Nat → Prop} (ht : Turn P w w') (hP : ∀ g, P g → g = G ∨ (v.ts ≠ [] ∧ v.a = some ⟨g, 0, none⟩)) : ORow w' B U G (l.set j v') cur' := by
  have hjl := (List.getElem?_eq_some_iff.1 hj).1
  have hemp : v'.ts = [] ↔ v.ts = [] := by rw [← List.length_eq_zero_iff, ← List.length_eq_zero_iff, hl]
  have hget : ∀ (i : Nat) x, (l.set j v')[i]? = some x → (i = j ∧ x = v') ∨ (i ≠ j ∧ l[i]? = some x) := by
    intro i x hx
    by_cases e : i = j
    · subst e
      rw [List.getElem?_set_self hjl] at hx
      injection hx with hx
      exact .inl ⟨rfl, hx.symm⟩
    · rw [List.getElem?_set_ne (fun e' => e e'.symm)] at hx
      exact .inr ⟨e, hx⟩
  refine ⟨hb, h.lo, h.hi, by rw [List.length_set, hs]; exact h.size, fun i x hx => ?_, fun i x hx => ?_, fun i i' x x' hne hx hx' hn hn' => ?_⟩
  · rcases hget i x hx with ⟨rfl, rfl⟩ | ⟨e, hx⟩
    · exact hv
    · exact ho i x e (h.at' i x hx)
  · rcases hget i x hx with ⟨rfl, rfl⟩ | ⟨e, hx⟩
    · exact hown
    · refine (h.own i x hx).turned ht (fun g hg _ _ hne hP' => ?_)
      rcases hP g hP' with rfl | ⟨h1, h2⟩
      · rcases h.own i x hx with h0 | ⟨g', c', e1, _, _, e2, _⟩
        · exact hne h0
        · rw [e1] at hg
          injection hg with hg
          injection hg with hg
          subst hg
          exact ver_ne_tag (blk_one h.blk e2)
      · exact h.apart i j x v e hx hj hne h1 (hg.trans h2.symm)
  · rcases hget i x hx with ⟨rfl, rfl⟩ | ⟨e, hq⟩ <;> rcases hget i' x' hx' with ⟨rfl, rfl⟩ | ⟨e', hq'⟩
    · exact absurd rfl hne
    · rw [ha]; exact h.apart i i' v x' hne hj hq' (fun h0 => hn (hemp.2 h0)) hn'
    · rw [ha]; exact h.apart i i' x v hne hq hj hn (fun h0 => hn' (hemp.2 h0))
    · exact h.apart i i' x x' hne hq hq' hn hn'

/-- What marking the causes of one version leaves. -/
def MarkedO (w : World) (B U : Nat) (v : V) (k : Int) (e : Ending) (w' : World) : Prop :=
  e = .returned (.int .i64 (k + 2 * (v.ts.length : Int))) ∧ (∀ v' : V, v'.a = v.a → v'.ts = marksL k v.ts.length → Own1 w' B U v') ∧ Turn (fun g => v.ts ≠ [] ∧ v.a = some ⟨g, 0, none⟩) w w'
theorem markTagS_own (B U : Nat) (v : V) (k : Int) (w : World) (ho : Own1 w B U v) (hn : v.ts.length ≤ 1048576) (hk0 : 0 ≤ k) (hk : k ≤ 1000000000) :
    Calls Tryz.prog 81 #[.slice v.a v.ts.length v.c, .int .i64 k] w (MarkedO w B U v k) := by
  by_cases h0 : v.ts = []
  · have hm : ∀ W : World, Calls Tryz.prog 81 #[.slice v.a 0 v.c, .int .i64 k] W fun e w' => e = .returned (.int .i64 k) ∧ W = w' := by
      intro W
      go_enter Tryz.func81, Tryz.ntmps81
      go_wp2
      go_loop [1, 5] (fun v i => v = .int .i64 k ∧ i = .int .i64 0) (fun _ _ => 0)
      case atStart => exact ⟨rfl, rfl⟩
      case round =>
        obtain ⟨rfl, rfl⟩ := hrel
        go_wp2
        go_ret
        exact ⟨rfl, rfl⟩
    have e0 : v.ts.length = 0 := by rw [h0]; rfl
    rw [e0]
    refine (hm w).mono ?_
    rintro e w' ⟨rfl, rfl⟩
    exact ⟨by rw [e0]; simp, fun v' _ h => .inl (by rw [h, e0]; rfl), Turn.refl _ _⟩
  · rcases ho with h | ⟨g, cur, h1, h2, h3, h4, h5, h6⟩
    · exact absurd h h0
    · rw [h1]
      refine (markTagS_any g v.c v.ts.length _ cur k w h4 h5 hn hk0 hk).mono ?_
      rintro e w' ⟨rfl, ⟨cur', hb', hs', hc'⟩, hG⟩
      exact ⟨rfl, fun v' ha ht => .inr ⟨g, cur', by rw [ha, h1], h2, h3, hb', by rw [ht, marksL_len, hs']; exact h5, by rw [ht]; exact hc'⟩, .of hG (fun g' e => by injection e with e; subst e; exact ⟨h0, h1⟩)⟩

theorem verAt_put3 {cur : Array Value} {j : Nat} {k : Int} {c4 c5 : Value} {v : V} (hs : j * 6 + 5 < cur.size) (hv : VerAt cur j v) (s : ByteArray) (g : Bool) (ts : List (Int × Int)) (hl : ts.length = v.ts.length) (h4 : c4 = .string s) (h5 : c5 = .bool g) :
    VerAt (((((cur.setIfInBounds (j * 6) (.int .i64 k)).setIfInBounds (j * 6 + 1) (.int .i64 (k + 1))).setIfInBounds (j * 6 + 1 + 1) (.int .i64 (k + 1 + 1))).setIfInBounds (j * 6 + 4) c4).setIfInBounds (j * 6 + 5) c5) j ⟨k, k + 1, k + 1 + 1, v.a, v.c, ts, s, g⟩ := by
  subst h4 h5
  obtain ⟨q0, q1, q2, q3, q4, q5⟩ := hv
  refine ⟨?_, ?_, ?_, ?_, ?_, ?_⟩
  all_goals
    simp only [Array.getElem?_setIfInBounds, Array.size_setIfInBounds]
    repeat first | rw [if_pos trivial] | rw [if_neg (by omega)] | rw [if_pos (by omega)]
    try first | rfl | (rw [hl]; exact q3)
theorem verAt_put3_other {cur : Array Value} {i j : Nat} {c0 c1 c2 c4 c5 : Value} {v : V} (hne : i ≠ j) (hv : VerAt cur i v) :
    VerAt (((((cur.setIfInBounds (j * 6) c0).setIfInBounds (j * 6 + 1) c1).setIfInBounds (j * 6 + 1 + 1) c2).setIfInBounds (j * 6 + 4) c4).setIfInBounds (j * 6 + 5) c5) i v := by
  obtain ⟨q0, q1, q2, q3, q4, q5⟩ := hv
  refine ⟨?_, ?_, ?_, ?_, ?_, ?_⟩
  all_goals
    simp only [Array.getElem?_setIfInBounds, Array.size_setIfInBounds]
    repeat rw [if_neg (by omega)]
    assumption
theorem ORow.apartG {w : World} {B U G j g : Nat} {l : List V} {cur : Array Value} {v : V} (h : ORow w B U G l cur) (hj : l[j]? = some v) (hne : v.ts ≠ []) (hg : v.a = some ⟨g, 0, none⟩) : g ≠ G := by
  intro e
  subst e
  rcases h.own j v hj with h0 | ⟨g', c', e1, _, _, e2, _⟩
  · exact hne h0
  · rw [e1] at hg
    injection hg with hg
    injection hg with hg
    subst hg
    exact ver_ne_tag (blk_one h.blk e2)

/-- What markVerS leaves: a row that bears the marks; nothing else has turned. -/
def MarkedVR (w : World) (B U G : Nat) (vs : List V) (k : Int) (e : Ending) (w' : World) : Prop :=
  e = .returned (.int .i64 (k + wts vs)) ∧ (∃ cur, ORow w' B U G (mkVs k vs) cur) ∧ Turn (fun g => B ≤ g ∧ g < U) w w'

/-- The blocks of a row: its own, and those of its causes. -/
def Foot (G : Nat) (vs : List V) (g : Nat) : Prop := g = G ∨ ∃ (i : Nat) (v : V), vs[i]? = some v ∧ v.ts ≠ [] ∧ v.a = some ⟨g, 0, none⟩
theorem ORow.foot {w : World} {B U G : Nat} {vs : List V} {cur : Array Value} (h : ORow w B U G vs cur) {g : Nat} (hg : Foot G vs g) : B ≤ g ∧ g < U := by
  rcases hg with rfl | ⟨i, v, hi, hn, ha⟩
  · exact ⟨h.lo, h.hi⟩
  · rcases h.own i v hi with h0 | ⟨g', c', e1, q1, q2, _⟩
    · exact absurd h0 hn
    · rw [e1] at ha
      injection ha with ha
      injection ha with ha
      subst ha
      exact ⟨q1, q2⟩
/-- The same, of the row's own blocks alone. -/
def MarkedVF (w : World) (B U G : Nat) (vs : List V) (k : Int) (e : Ending) (w' : World) : Prop :=
  e = .returned (.int .i64 (k + wts vs)) ∧ (∃ cur, ORow w' B U G (mkVs k vs) cur) ∧ Turn (Foot G vs) w w'

set_option maxRecDepth 100000 in
set_option maxHeartbeats 4000000 in
theorem markVerS_foot (B U G c : Nat) (vs : List V) (cur : Array Value) (k : Int) (w : World) (hR : ORow w B U G vs cur) (hm : ∀ v ∈ vs, v.ts.length ≤ 1048576) (hn : vs.length ≤ 1048576) (hk0 : 1 ≤ k) (hk : k + wts vs ≤ 8388000) :
    Calls Tryz.prog 37 #[.slice (some ⟨G, 0, none⟩) vs.length c, .int .i64 k] w (MarkedVF w B U G vs k) := by
  have HM := hide hm
  clear hm
  have HT : Hid (wts (vs.take vs.length) = wts vs) := wts_all vs
  generalize hnn : vs.length = n at *
  have HN := hide hnn
  clear hnn
  go_enter Tryz.func37, Tryz.ntmps37
  go_wp2
  go_loopw [1, 5] (fun v i wr => ∃ (j : Nat) (m : Int) (l : List V) (cr : Array Value), j ≤ n ∧ i = .int .i64 (j : Int) ∧ v = .int .i64 m ∧ Hid (m = k + wts (vs.take j)) ∧ ORow wr B U G l cr ∧ Hid (l.length = n ∧ (∀ i, i < j → l[i]? = (mkVs k vs)[i]?) ∧ ∀ i, j ≤ i → l[i]? = vs[i]?) ∧ Turn (Foot G vs) w wr) (fun _ i _ => n - (intOf i).toNat)
  case atStart => exact ⟨0, k, vs, cur, Nat.zero_le _, rfl, rfl, by unfold Hid wts; simp, hR, ⟨HN.out, fun i hi => absurd hi (by omega), fun _ _ => rfl⟩, Turn.refl _ _⟩
  case round =>
    obtain ⟨j, m, l, cr, hj, rfl, rfl, HMM, hO, HL, hT⟩ := hrel
    clear hR
    by_cases hlt : j < n
    · obtain ⟨v, hv⟩ : ∃ v, vs[j]? = some v := ⟨_, List.getElem?_eq_getElem (by have := HN.out; omega)⟩
      have hlj : l[j]? = some v := by rw [HL.out.2.2 j (Nat.le_refl _), hv]
      have HB := hide (HM.out v (List.mem_of_getElem? hv))
      have st := wts_step hv
      have le := wts_le vs (j + 1)
      have ps := wts_pos (vs.take j)
      have HV := hide hv
      have HLJ := hide hlj
      have HWT : Hid (wt v = 5 + 2 * (v.ts.length : Int)) := rfl
      have b1 : 1 ≤ m := by have := HMM.out; omega
      have b2 : m + 5 + 2 * (v.ts.length : Int) ≤ 8388000 := by have := HMM.out; have := HWT.out; omega
      have H2 : Hid (m + 1 + 1 + 1 + 2 * (v.ts.length : Int) + 1 + 1 = k + wts (vs.take (j + 1))) := by have := HMM.out; have := HWT.out; unfold Hid; omega
      have hA := hO.at' j v hlj
      have HSZ : Hid (j * 6 + 5 < cr.size) := by have := hO.size; have := HL.out.1; unfold Hid; omega
      have HA := hide hA
      have d0 := (hO.blk.at (j * 6)).trans hA.1
      have d1 := (hO.blk.at (j * 6 + 1)).trans hA.2.1
      have d2 := (hO.blk.at (j * 6 + 2)).trans hA.2.2.1
      have d3 := (hO.blk.at (j * 6 + 3)).trans hA.2.2.2.1
      have f0 := hO.blk.loose (j * 6)
      have f1 := hO.blk.loose (j * 6 + 1)
      have f2 := hO.blk.loose (j * 6 + 2)
      have C2 := ((hO.blk.put (j * 6) (.int .i64 m)).put (j * 6 + 1) (.int .i64 (m + 1))).put (j * 6 + 1 + 1) (.int .i64 (m + 1 + 1))
      have T2 := (((Turn.refl (fun g => g = G) wr).set (p := ⟨G, j * 6, none⟩) rfl (.int .i64 m)).set (p := ⟨G, j * 6 + 1, none⟩) rfl (.int .i64 (m + 1))).set (p := ⟨G, j * 6 + 1 + 1, none⟩) rfl (.int .i64 (m + 1 + 1))
      have i1 : (0 : Int) ≤ (j : Int) := by omega
      have i2 : (j : Int) < (n : Int) := by omega
      have HO := hide hO
      clear st le ps hv hlj hA hO
      go_wp2_with fail
      generalize ((wr.setCell ⟨G, j * 6, none⟩ (.int .i64 m)).setCell ⟨G, j * 6 + 1, none⟩ (.int .i64 (m + 1))).setCell ⟨G, j * 6 + 1 + 1, none⟩ (.int .i64 (m + 1 + 1)) = W3 at C2 T2 ⊢
      have O3 := (HO.out.own j v HLJ.out).turned T2 (fun g hg _ _ hne e => HO.out.apartG HLJ.out hne hg e)
      refine (markTagS_own B U v (m + 1 + 1 + 1) W3 O3 HB.out (by omega) (by omega)).mono ?_
      rintro e w1 ⟨rfl, hM1, T3⟩
      have C3 := C2.turned T3 (fun ⟨h1, h2⟩ => HO.out.apartG HLJ.out h1 h2 rfl)
      clear d0 d1 d2 d3 f0 f1 f2 C2
      go_wp2_with fail
      refine (markText_any _ _ (by omega) (by omega)).mono ?_
      rintro e w2 ⟨rfl, hb2⟩
      have C4 := C3.on hb2
      have hs4 : j * 6 + 4 < (((cr.setIfInBounds (j * 6) (.int .i64 m)).setIfInBounds (j * 6 + 1) (.int .i64 (m + 1))).setIfInBounds (j * 6 + 1 + 1) (.int .i64 (m + 1 + 1))).size := by have := HSZ.out; simp; omega
      have hs5 : j * 6 + 5 < (((cr.setIfInBounds (j * 6) (.int .i64 m)).setIfInBounds (j * 6 + 1) (.int .i64 (m + 1))).setIfInBounds (j * 6 + 1 + 1) (.int .i64 (m + 1 + 1))).size := by have := HSZ.out; simp; omega
      generalize hcr : ((cr.setIfInBounds (j * 6) (.int .i64 m)).setIfInBounds (j * 6 + 1) (.int .i64 (m + 1))).setIfInBounds (j * 6 + 1 + 1) (.int .i64 (m + 1 + 1)) = cr3 at C4 hs4 hs5
      have HCR := hide hcr
      have d4 : w2.cell? ⟨G, j * 6 + 4, none⟩ = some cr3[j * 6 + 4] := by rw [C4.at]; exact Array.getElem?_eq_getElem hs4
      have d5 : w2.cell? ⟨G, j * 6 + 5, none⟩ = some cr3[j * 6 + 5] := by rw [C4.at]; exact Array.getElem?_eq_getElem hs5
      have f4 := C4.loose (j * 6 + 4)
      have f5 := C4.loose (j * 6 + 5)
      have HR9 : Hid (ORow ((w2.setCell ⟨G, j * 6 + 4, none⟩ (.string (markT (m + 1 + 1 + 1 + 2 * (v.ts.length : Int))))).setCell ⟨G, j * 6 + 5, none⟩ (.bool ((m + 1 + 1 + 1 + 2 * (v.ts.length : Int) + 1) % 3 == 0))) B U G (l.set j (mkV m v)) ((cr3.setIfInBounds (j * 6 + 4) (.string (markT (m + 1 + 1 + 1 + 2 * (v.ts.length : Int))))).setIfInBounds (j * 6 + 5) (.bool ((m + 1 + 1 + 1 + 2 * (v.ts.length : Int) + 1) % 3 == 0)))) := by
        have Tg2 := (((Turn.refl (fun g => g = G) w2).set (p := ⟨G, j * 6 + 4, none⟩) rfl (.string (markT (m + 1 + 1 + 1 + 2 * (v.ts.length : Int))))).set (p := ⟨G, j * 6 + 5, none⟩) rfl (.bool ((m + 1 + 1 + 1 + 2 * (v.ts.length : Int) + 1) % 3 == 0)))
        have hne' : (mkV m v).ts ≠ [] → v.ts ≠ [] := fun h h0 => h (by show marksL _ _ = []; rw [h0]; rfl)
        refine HO.out.turn1 (v' := mkV m v) HLJ.out ((C4.put _ _).put _ _) (by rw [← hcr]; simp) ?_ ?_ rfl (marksL_len _ _) ?_ (P := fun g => g = G ∨ (v.ts ≠ [] ∧ v.a = some ⟨g, 0, none⟩)) ?_ (fun g h => h)
        · rw [← hcr]; exact verAt_put3 HSZ.out HA.out _ _ _ (marksL_len _ _) rfl rfl
        · intro i x hi hx; rw [← hcr]; exact verAt_put3_other hi hx
        · exact ((hM1 (mkV m v) rfl rfl).on hb2).turned Tg2 (fun g hg _ _ hne e => HO.out.apartG HLJ.out (hne' hne) hg e)
        · exact (((⟨T2.os, T2.tape, T2.output, T2.size, fun i hi hn => T2.block i hi (fun e => hn (.inl e))⟩ : Turn _ wr W3).trans ⟨T3.os, T3.tape, T3.output, T3.size, fun i hi hn => T3.block i hi (fun e => hn (.inr e))⟩).trans (.below hb2)).trans ⟨Tg2.os, Tg2.tape, Tg2.output, Tg2.size, fun i hi hn => Tg2.block i hi (fun e => hn (.inl e))⟩
      have HT9 : Hid (Turn (Foot G vs) w ((w2.setCell ⟨G, j * 6 + 4, none⟩ (.string (markT (m + 1 + 1 + 1 + 2 * (v.ts.length : Int))))).setCell ⟨G, j * 6 + 5, none⟩ (.bool ((m + 1 + 1 + 1 + 2 * (v.ts.length : Int) + 1) % 3 == 0)))) := by
        have T3' : Turn (Foot G vs) W3 w1 := ⟨T3.os, T3.tape, T3.output, T3.size, fun i hi hn => T3.block i hi (fun h => hn (.inr ⟨j, v, HV.out, h.1, h.2⟩))⟩
        have T2' : Turn (Foot G vs) wr W3 := ⟨T2.os, T2.tape, T2.output, T2.size, fun i hi hn => T2.block i hi (fun e => hn (.inl e))⟩
        exact ((((hT.trans T2').trans T3').trans (.below hb2)).set (p := ⟨G, j * 6 + 4, none⟩) (.inl rfl) _).set (p := ⟨G, j * 6 + 5, none⟩) (.inl rfl) _
      have HL9 : Hid ((l.set j (mkV m v)).length = n ∧ (∀ i, i < j + 1 → (l.set j (mkV m v))[i]? = (mkVs k vs)[i]?) ∧ ∀ i, j + 1 ≤ i → (l.set j (mkV m v))[i]? = vs[i]?) := by
        refine ⟨by rw [List.length_set]; exact HL.out.1, fun i hi => ?_, fun i hi => ?_⟩
        · by_cases e : i = j
          · subst e
            rw [List.getElem?_set_self (by have := HL.out.1; omega), mkVs_at, HV.out, ← HMM.out]
            rfl
          · rw [List.getElem?_set_ne (fun e' => e e'.symm)]
            exact HL.out.2.1 i (by omega)
        · rw [List.getElem?_set_ne (by omega)]
          exact HL.out.2.2 i (by omega)
      clear hcr C3 C4 hM1 T2 T3 hT HL HA
      go_wp2
      exact ⟨⟨j + 1, _, _, _, by omega, by go_num, rfl, H2, HR9.out, HL9, HT9.out⟩, by simp [intOf]; omega⟩
    · have hjn : j = n := by omega
      subst hjn
      clear hlt
      have hl : l = mkVs k vs := by
        apply List.ext_getElem?
        intro i
        by_cases hi : i < j
        · exact HL.out.2.1 i hi
        · rw [HL.out.2.2 i (by omega), List.getElem?_eq_none (by have := HN.out; omega), List.getElem?_eq_none (by rw [mkVs_len]; have := HN.out; omega)]
      subst hl
      have HO := hide hO
      have HTT := hide hT
      clear hO hT
      go_wp2
      go_ret
      exact ⟨ret_int (by rw [HMM.out, HT.out]), ⟨cr, HO.out⟩, HTT.out⟩

set_option maxRecDepth 100000 in
set_option maxHeartbeats 4000000 in
theorem heldVerS_any (B U G c : Nat) (vs : List V) (cur : Array Value) (k : Int) (w : World) (hR : ORow w B U G (mkVs k vs) cur) (hm : ∀ v ∈ vs, v.ts.length ≤ 1048576) (hn : vs.length ≤ 1048576) (hk0 : 1 ≤ k) (hk : k + wts vs ≤ 8388000) :
    Calls Tryz.prog 40 #[.slice (some ⟨G, 0, none⟩) vs.length c, .int .i64 k] w fun e w' => e = .returned (.int .i64 (k + wts vs)) ∧ Below w.heap.size w w' := by
  have HM := hide hm
  clear hm
  have HT : Hid (wts (vs.take vs.length) = wts vs) := wts_all vs
  generalize hnn : vs.length = n at *
  have HN := hide hnn
  clear hnn
  go_enter Tryz.func40, Tryz.ntmps40
  go_wp2
  go_loopw [1, 5] (fun v i wr => ∃ (j : Nat) (m : Int), j ≤ n ∧ i = .int .i64 (j : Int) ∧ v = .int .i64 m ∧ Hid (m = k + wts (vs.take j)) ∧ Below w.heap.size w wr) (fun _ i _ => n - (intOf i).toNat)
  case atStart => exact ⟨0, k, Nat.zero_le _, rfl, rfl, by unfold Hid wts; simp, Below.refl _ _⟩
  case round =>
    obtain ⟨j, m, hj, rfl, rfl, HMM, hL⟩ := hrel
    have hRw := hR.on hL
    by_cases hlt : j < n
    · obtain ⟨v, hv⟩ : ∃ v, vs[j]? = some v := ⟨_, List.getElem?_eq_getElem (by have := HN.out; omega)⟩
      have hmj : (mkVs k vs)[j]? = some (mkV m v) := by rw [mkVs_at, hv, HMM.out]; rfl
      have HB := hide (HM.out v (List.mem_of_getElem? hv))
      have st := wts_step hv
      have le := wts_le vs (j + 1)
      have ps := wts_pos (vs.take j)
      have HWT : Hid (wt v = 5 + 2 * (v.ts.length : Int)) := rfl
      have b1 : 1 ≤ m := by have := HMM.out; omega
      have b2 : m + 5 + 2 * (v.ts.length : Int) ≤ 8388000 := by have := HMM.out; have := HWT.out; omega
      have H2 : Hid (m + 1 + 1 + 1 + 2 * (v.ts.length : Int) + 1 + 1 = k + wts (vs.take (j + 1))) := by have := HMM.out; have := HWT.out; unfold Hid; omega
      obtain ⟨q0, q1, q2, q3, q4, q5⟩ := hRw.at' j _ hmj
      have OT := hide (hRw.own j _ hmj).tg
      simp only [mkV, marksL_len] at q0 q1 q2 q3 q4 q5 OT
      have d0 := (hRw.blk.at (j * 6)).trans q0
      have d1 := (hRw.blk.at (j * 6 + 1)).trans q1
      have d2 := (hRw.blk.at (j * 6 + 2)).trans q2
      have d3 := (hRw.blk.at (j * 6 + 3)).trans q3
      have Q4 := hide q4
      have Q5 := hide q5
      have hin := hR.blk.inside
      have hBk := hide hR.blk
      have i1 : (0 : Int) ≤ (j : Int) := by omega
      have i2 : (j : Int) < (n : Int) := by omega
      clear st le ps hv hmj q0 q1 q2 q3 q4 q5 hRw
      go_wp2_with fail
      refine (heldTagS_any v.a v.c v.ts.length (m + 1 + 1 + 1) wr HB.out (by omega) (by omega) OT.out).mono ?_
      rintro e w1 ⟨rfl, rfl⟩
      have hpos : ¬ (m + 1 + 1 + 1 + 2 * (v.ts.length : Int) < 0) := by omega
      go_wp2_with fail
      refine wp_region_noPanic ?_
      refine wp_region_held_drew (S := (fun w' => w'.cell? ⟨G, j * 6 + 4, none⟩ = some (.string (markT (m + 1 + 1 + 1 + 2 * (v.ts.length : Int)))) ∧ Below w.heap.size w w')) (by kernel_rfl) (by exact ⟨((hBk.out.on hL).at (j * 6 + 4)).trans Q4.out, hL.drew⟩) (fun hHeld => ?_)
      refine mvR 0 (some 51) hHeld ?_
      refine mvR 1 (some 52) hHeld ?_
      refine mvR 2 (some 53) hHeld ?_
      refine mvR 3 (some 54) hHeld ?_
      refine mvR 4 (some 55) hHeld ?_
      refine mvR 5 (some 56) hHeld ?_
      refine take_one 6 (by kernel_rfl) rfl (fun K hK => ?_)
      go_simp
      (refine (markText_any _ _ (by omega) (by omega)).mono ?_; rintro e w2 ⟨rfl, hb2⟩)
      try go_wp2_with fail
      refine hK.out _ _ (by exact ⟨((hBk.out.on (hHeld.2.trans (hb2.mono hHeld.2.size))).at (j * 6 + 4)).trans Q4.out, hHeld.2.trans (hb2.mono hHeld.2.size)⟩) (fun hHeld => ?_)
      clear hK K
      refine mvR 7 (some 58) hHeld ?_
      refine wpAnyH_done (by kernel_rfl) ?_ _
      refine NoPanic.normal ?_
      have hL2 := hHeld.2
      have d5 := ((hBk.out.on hL2).at (j * 6 + 5)).trans Q5.out
      clear hHeld d0 d1 d2 d3 hL
      go_wp2
      exact ⟨⟨j + 1, _, by omega, by go_num, rfl, H2, hL2⟩, by simp [intOf]; omega⟩
    · have hjn : j = n := by omega
      subst hjn
      clear hlt hRw
      go_wp2
      go_ret
      exact ⟨ret_int (by rw [HMM.out, HT.out]), hL⟩
end Go.Proofs.YtnaggcdhimcilaaGreat
/- Copies of stores in memory of their own; how stores are marked and the marks found again. Condition: as many versions and tags as a law lets by. -/
namespace Go.Proofs.YtnaggcdhimcilaaGreat
open Go.RowKit Go.Joins

theorem Own1.low {w : World} {B B' U : Nat} {v : V} (h : Own1 w B U v) (hb : B' ≤ B) : Own1 w B' U v := by
  rcases h with h | ⟨g, cur, h1, h2, h3, h4, h5, h6⟩
  · exact .inl h
  · exact .inr ⟨g, cur, h1, by omega, h3, h4, h5, h6⟩
theorem ORow.low {w : World} {B B' U G : Nat} {vs : List V} {cur : Array Value} (h : ORow w B U G vs cur) (hb : B' ≤ B) : ORow w B' U G vs cur :=
  ⟨h.blk, Nat.le_trans hb h.lo, h.hi, h.size, h.at', fun i v hi => (h.own i v hi).low hb, h.apart⟩
/-- One version more in a row. -/
theorem ORow.snoc {w w' : World} {B U G k : Nat} {us : List V} {cur cur' : Array Value} {v : V} (h : ORow w B U G us cur) (hk : us.length = k) (hb : Blk w' G 96 cur') (hs : (k + 1) * 6 ≤ cur'.size)
    (hv : VerAt cur' k v) (ho : ∀ i x, i < k → VerAt cur i x → VerAt cur' i x) (hown : Own1 w' B U v) (hap : ∀ (i : Nat) x, us[i]? = some x → x.ts ≠ [] → x.a ≠ v.a)
    {P : Nat → Prop} (ht : Turn P w w') (hP : ∀ g, P g → g = G) : ORow w' B U G (us ++ [v]) cur' := by
  have hget : ∀ (i : Nat) x, (us ++ [v])[i]? = some x → (i = k ∧ x = v) ∨ (i < k ∧ us[i]? = some x) := by
    intro i x hx
    by_cases e : i < us.length
    · rw [List.getElem?_append_left e] at hx
      exact .inr ⟨by omega, hx⟩
    · rw [List.getElem?_append_right (by omega)] at hx
      have h0 : i - us.length = 0 := by
        have := (List.getElem?_eq_some_iff.1 hx).1
        simp at this
        omega
      rw [h0] at hx
      simp at hx
      exact .inl ⟨by omega, hx.symm⟩
  refine ⟨hb, h.lo, h.hi, by simp only [List.length_append, List.length_singleton]; omega, fun i x hx => ?_, fun i x hx => ?_, fun i j x y hne hx hy hn hn' => ?_⟩
  · rcases hget i x hx with ⟨rfl, rfl⟩ | ⟨e, hx⟩
    · exact hv
    · exact ho i x e (h.at' i x hx)
  · rcases hget i x hx with ⟨rfl, rfl⟩ | ⟨e, hx⟩
    · exact hown
    · exact (h.own i x hx).turned ht (fun g hg _ _ hne hp => h.apartG hx hne hg (hP g hp))
  · rcases hget i x hx with ⟨e1, e2⟩ | ⟨e, hq⟩ <;> rcases hget j y hy with ⟨e3, e4⟩ | ⟨e', hq'⟩
    · omega
    · rw [e2]; exact fun e => hap j y hq' hn' e.symm
    · rw [e4]; exact hap i x hq hn
    · exact h.apart i j x y hne hq hq' hn hn'
theorem orow_step {w : World} {B U G k : Nat} {us : List V} {cur : Array Value} {v : V} (h : ORow w B U G us cur) (hk : us.length = k) (ho : Own1 w B U v) (hap : ∀ (i : Nat) x, us[i]? = some x → x.ts ≠ [] → x.a ≠ v.a) (hs : k * 6 + 5 < cur.size) (hG : v.ts ≠ [] → v.a ≠ some ⟨G, 0, none⟩) :
    ORow ((((((w.setCell ⟨G, k * 6, none⟩ (.int .i64 v.k)).setCell ⟨G, k * 6 + 1, none⟩ (.int .i64 v.t)).setCell ⟨G, k * 6 + 2, none⟩ (.int .i64 v.u)).setCell ⟨G, k * 6 + 3, none⟩ (.slice v.a v.ts.length v.c)).setCell ⟨G, k * 6 + 4, none⟩ (.string v.s)).setCell ⟨G, k * 6 + 5, none⟩ (.bool v.g)) B U G (us ++ [v]) (put6 cur k v) := by
  have ht : Turn (fun g => g = G) w ((((((w.setCell ⟨G, k * 6, none⟩ (.int .i64 v.k)).setCell ⟨G, k * 6 + 1, none⟩ (.int .i64 v.t)).setCell ⟨G, k * 6 + 2, none⟩ (.int .i64 v.u)).setCell ⟨G, k * 6 + 3, none⟩ (.slice v.a v.ts.length v.c)).setCell ⟨G, k * 6 + 4, none⟩ (.string v.s)).setCell ⟨G, k * 6 + 5, none⟩ (.bool v.g)) :=
    ((((((Turn.refl (fun g => g = G) w).set (p := ⟨G, k * 6, none⟩) rfl _).set (p := ⟨G, k * 6 + 1, none⟩) rfl _).set (p := ⟨G, k * 6 + 2, none⟩) rfl _).set (p := ⟨G, k * 6 + 3, none⟩) rfl _).set (p := ⟨G, k * 6 + 4, none⟩) rfl _).set (p := ⟨G, k * 6 + 5, none⟩) rfl _
  refine h.snoc hk ((((((h.blk.put _ _).put _ _).put _ _).put _ _).put _ _).put _ _) (by simp; omega) (verAt_put hs) (fun i x hi hx => verAt_other (by omega) hx) (ho.turned ht (fun g hg _ _ hne e => hG hne (by rw [hg, e]))) hap ht (fun g e => e)

/-- What toVerS leaves: a copy in memory of its own. -/
def CopiedVO (w : World) (vs : List V) (e : Ending) (w' : World) : Prop :=
  ∃ (g : Nat) (us : List V) (cur : Array Value), e = .returned (.slice (some ⟨g, 0, none⟩) vs.length vs.length) ∧ us.length = vs.length ∧ Like us vs ∧ ORow w' w.heap.size w'.heap.size g us cur ∧ Below w.heap.size w w'
set_option maxRecDepth 100000 in
set_option maxHeartbeats 2000000 in
theorem toVerS_own (a : Option Addr) (c : Nat) (vs : List V) (w : World) (hn : vs.length ≤ 1048576) (hm : ∀ v ∈ vs, v.ts.length ≤ 1048576) (hv : Vg w w.heap.size a vs) :
    Calls Tryz.prog 26 #[.slice a vs.length c] w (CopiedVO w vs) := by
  obtain ⟨i0, hi0, hz0, hz1, hz2⟩ := info_parts ver_info
  have hmk : ∀ W : World, (Instr.makeSlice 33 (.int .i64 (vs.length : Int)) (.int .i64 (vs.length : Int))).run Tryz.prog W = .ok (.slice (some ⟨W.heap.size, 0, none⟩) vs.length vs.length) (W.alloc (.cells (madeCells (Value.agg (verC 0 0 0 none 0 0 ⟨#[]⟩ false)).cells (vs.length * 6)) 96)) := by
    intro W
    have hr := run_make (P := Tryz.prog) W 33 96 i0 _ Tryz.underlying33 hi0 hz0 .i64 .i64 (vs.length : Int) (vs.length : Int) (by omega) (by omega) (by rw [hz2]; omega) (by omega)
    rw [hz1] at hr
    simpa using hr
  have HM := hide hm
  clear hm
  generalize hn' : vs.length = n at *
  have HN := hide hn'
  clear hn'
  go_enter Tryz.func26, Tryz.ntmps26
  go_wp2
  clear hmk hi0 hz0 hz1 hz2
  have B0 := Blk.made w 96 (madeCells (verC 0 0 0 none 0 0 ⟨#[]⟩ false) (n * 6))
  have L0 := below_alloc1 w (.cells (madeCells (verC 0 0 0 none 0 0 ⟨#[]⟩ false) (n * 6)) 96)
  go_loopw [4] (fun i wr => ∃ (k : Nat) (cur : Array Value) (us : List V), k ≤ n ∧ i = .int .i64 (k : Int) ∧ Hid (us.length = k) ∧ ORow wr w.heap.size wr.heap.size w.heap.size us cur ∧ cur.size = n * 6 ∧ Hid (Like us vs) ∧ Below w.heap.size w wr) (fun i _ => n - (intOf i).toNat)
  case atStart => exact ⟨0, _, [], Nat.zero_le _, rfl, rfl, ⟨B0, Nat.le_refl _, by simp, by simp, fun i v hi => by simp at hi, fun i v hi => by simp at hi, fun i j v v' _ hi => by simp at hi⟩, size_madeCells _ _, fun i v v' hi => by simp at hi, L0⟩
  case round =>
    obtain ⟨k, cur, us, hk, rfl, hus, hR, hsz, hli, hL⟩ := hrel
    by_cases hlt : k < n
    · rcases hv with h0 | ⟨b, off, rfl, hb, hx⟩
      · have := HN.out; subst h0; simp at this; omega
      · have hkl : k < vs.length := by have := HN.out; omega
        obtain ⟨hS, hT⟩ := hx k _ (List.getElem?_eq_getElem hkl)
        have HX := hide (List.getElem?_eq_getElem hkl)
        generalize vs[k] = v at hS hT HX
        have HB := hide (HM.out v (List.mem_of_getElem? HX.out))
        obtain ⟨vk, vt, vu, va, vc, vts, vs', vg⟩ := v
        simp only at hS hT
        have hS' := hS.keep hb fun _ hp => hL.cell hp
        have HT := hide ((hT.on hL).up hL.size)
        clear hS hT hx
        go_wp2_with fail
        refine (toVer_any vk vt vu va vc vts vs' vg wr HB.out HT.out).mono ?_
        rintro e w1 ⟨g1, cur1, rfl, hg1, hB1, hsz1, hcur1, hb1⟩
        have hG : w.heap.size < wr.heap.size := hR.blk.inside
        have zw1 := hb1.size
        have in1 := hB1.inside
        have O1 : Own1 w1 w.heap.size w1.heap.size ⟨vk, vt, vu, some ⟨g1, 0, none⟩, vts.length, vts, vs', vg⟩ := .inr ⟨g1, cur1, rfl, by omega, in1, hB1, by simp only; omega, hcur1⟩
        have HR := hide (orow_step ((hR.on hb1).wide zw1) hus.out O1 (fun i x hx hne => by
          rcases hR.own i x hx with h0 | ⟨g', c', e1, q1, q2, _⟩
          · exact absurd h0 hne
          · rw [e1]; intro e; injection e with e; injection e with e; omega) (show k * 6 + 5 < cur.size by omega) (fun _ e => by injection e with e; injection e with e; omega))
        have HL := hide (like_step hli.out hus.out HX.out (v := ⟨vk, vt, vu, some ⟨g1, 0, none⟩, vts.length, vts, vs', vg⟩) ⟨rfl, rfl, rfl, rfl, rfl, rfl⟩)
        have B1 := hR.blk.on hb1
        have hs0 : k * 6 < cur.size := by omega
        have hs1 : k * 6 + 1 < cur.size := by omega
        have hs2 : k * 6 + 2 < cur.size := by omega
        have hs3 : k * 6 + 3 < cur.size := by omega
        have hs4 : k * 6 + 4 < cur.size := by omega
        have hs5 : k * 6 + 5 < cur.size := by omega
        have d0 : w1.cell? ⟨w.heap.size, k * 6, none⟩ = some cur[k * 6] := by rw [B1.at]; exact Array.getElem?_eq_getElem hs0
        have d1 : w1.cell? ⟨w.heap.size, k * 6 + 1, none⟩ = some cur[k * 6 + 1] := by rw [B1.at]; exact Array.getElem?_eq_getElem hs1
        have d2 : w1.cell? ⟨w.heap.size, k * 6 + 2, none⟩ = some cur[k * 6 + 2] := by rw [B1.at]; exact Array.getElem?_eq_getElem hs2
        have d3 : w1.cell? ⟨w.heap.size, k * 6 + 3, none⟩ = some cur[k * 6 + 3] := by rw [B1.at]; exact Array.getElem?_eq_getElem hs3
        have d4 : w1.cell? ⟨w.heap.size, k * 6 + 4, none⟩ = some cur[k * 6 + 4] := by rw [B1.at]; exact Array.getElem?_eq_getElem hs4
        have d5 : w1.cell? ⟨w.heap.size, k * 6 + 5, none⟩ = some cur[k * 6 + 5] := by rw [B1.at]; exact Array.getElem?_eq_getElem hs5
        have f0 := B1.loose (k * 6)
        have f1 := B1.loose (k * 6 + 1)
        have f2 := B1.loose (k * 6 + 2)
        have f3 := B1.loose (k * 6 + 3)
        have f4 := B1.loose (k * 6 + 4)
        have f5 := B1.loose (k * 6 + 5)
        have hL1 := hL.trans (hb1.mono hL.size)
        have HU : Hid ((us ++ [(⟨vk, vt, vu, some ⟨g1, 0, none⟩, vts.length, vts, vs', vg⟩ : V)]).length = k + 1) := by
          unfold Hid
          rw [List.length_append, hus.out]
          rfl
        clear hS' hR hli hus hcur1 O1 hL B1 hB1
        go_wp2
        exact ⟨⟨k + 1, _, _, by omega, by go_num, HU, by simpa [World.setCell] using HR.out, by simp [hsz], HL, (((((hL1.setCell (Nat.le_refl _) _).setCell (Nat.le_refl _) _).setCell (Nat.le_refl _) _).setCell (Nat.le_refl _) _).setCell (Nat.le_refl _) _).setCell (Nat.le_refl _) _⟩, by simp [intOf]; omega⟩
    · have hkn : k = n := by omega
      subst hkn
      clear hlt
      go_wp2
      go_ret
      have e := HN.out
      exact ⟨_, us, cur, by rw [e]; rfl, hus.out.trans e.symm, hli.out, hR, hL⟩

/-- What toStore leaves: a copy in memory of its own. -/
def CopiedSO (w : World) (vs : List V) (e : Ending) (w' : World) : Prop :=
  ∃ (g : Nat) (us : List V) (cur : Array Value), e = .returned (.agg #[.slice (some ⟨g, 0, none⟩) vs.length vs.length]) ∧ us.length = vs.length ∧ Like us vs ∧ ORow w' w.heap.size w'.heap.size g us cur ∧ Below w.heap.size w w'
set_option maxRecDepth 100000 in
set_option maxHeartbeats 1000000 in
theorem toStore_own (a : Option Addr) (c : Nat) (vs : List V) (w : World) (hn : vs.length ≤ 1048576) (hm : ∀ v ∈ vs, v.ts.length ≤ 1048576) (hv : Vg w w.heap.size a vs) :
    Calls Tryz.prog 128 #[.agg #[.slice a vs.length c]] w (CopiedSO w vs) := by
  have S0 := (((Inv.start w).box 128 #[.slice a vs.length c]).box 88 #[.slice none 0 0]).box 88 #[.slice none 0 0]
  simp only [World.size_alloc] at S0
  have T0 := hv.on S0.below
  go_enter Tryz.func128, Tryz.ntmps128
  go_wp2_with fail
  generalize (((w.alloc (.cells #[.slice a vs.length c] 128)).alloc (.cells #[.slice none 0 0] 88)).alloc (.cells #[.slice none 0 0] 88)) = W at S0 T0 ⊢
  refine (toVerS_own a c vs W hn hm (T0.up S0.base)).mono ?_
  rintro e w1 ⟨g, us, cur, rfl, hul, hli, hR, hb1⟩
  have S1 := S0.on hb1
  have hr := S0.room
  have hl := S1.below
  obtain ⟨k0, f0⟩ := (S1.nth 0 rfl).one
  obtain ⟨k1, f1⟩ := (S1.nth 1 rfl).one
  have hW := S0.base
  have HR := hide hR
  have HL := hide hli
  have HU := hide hul
  clear hR hli hul S0 S1 T0 hv hm
  go_wp2
  refine bodyPost_ret (v := .agg #[.slice (some ⟨g, 0, none⟩) vs.length vs.length]) (by simp [results, Tryz.results128, go_sem, k1]) rfl ?_
  have HT := (((Turn.refl (fun i => i < W.heap.size) w1).set (p := ⟨w.heap.size + 1 + 1, 0, none⟩) (by simp only; omega) (.slice (some ⟨g, 0, none⟩) vs.length vs.length)).set (p := ⟨w.heap.size + 1, 0, none⟩) (by simp only; omega) (.slice (some ⟨g, 0, none⟩) vs.length vs.length))
  exact ⟨g, us, cur, rfl, HU.out, HL.out, by simpa [World.setCell] using (HR.out.turned HT (fun i h1 h2 h3 => by omega)).low hW, (hl.setCell (by simp; omega) _).setCell (by simp) _⟩

end Go.Proofs.YtnaggcdhimcilaaGreat
/- Contracts of the functions that join vectors of tags, in the program and in the model. Condition: at most 1048576 tags. -/
namespace Go.Proofs.YtnaggcdhimcilaaGreat
open Go.RowKit Go.Joins
attribute [local go_sem ↓] Go.wp_at_zero Go.wp_at_succ

/-- The later one of two tags. -/
def mxp (x y : Int × Int) : Int × Int := (mxT x.1 x.2 y.1 y.2, mxP x.1 x.2 y.1 y.2)
/-- The later one at each place. -/
def mxL (ts us : List (Int × Int)) : List (Int × Int) := List.zipWith mxp ts us
/-- Tags as cells, one behind the other. -/
def flatT (ts : List (Int × Int)) : List Value := ts.flatMap fun x => [Value.int .i64 x.1, Value.int .i64 x.2]
theorem flatT_snoc (ts : List (Int × Int)) (x : Int × Int) : flatT (ts ++ [x]) = flatT ts ++ [.int .i64 x.1, .int .i64 x.2] := by simp [flatT]
theorem flatT_take {ts : List (Int × Int)} {k : Nat} {x : Int × Int} (h : ts[k]? = some x) : flatT (ts.take (k + 1)) = flatT (ts.take k) ++ [.int .i64 x.1, .int .i64 x.2] := by
  rw [List.take_add_one, h]
  exact flatT_snoc _ _
theorem flatT_one (ts : List (Int × Int)) : ∀ u ∈ flatT ts, u.oneCell' = true := by
  intro u hu
  simp only [flatT, List.mem_flatMap] at hu
  obtain ⟨x, _, hx⟩ := hu
  simp at hx
  rcases hx with rfl | rfl <;> rfl
theorem flatT_at : ∀ (ts : List (Int × Int)) (i : Nat) (x : Int × Int), ts[i]? = some x → (flatT ts)[i * 2]? = some (.int .i64 x.1) ∧ (flatT ts)[i * 2 + 1]? = some (.int .i64 x.2)
  | [], i, x, h => by simp at h
  | y :: ts, 0, x, h => by
    simp at h
    subst h
    simp [flatT]
  | y :: ts, i + 1, x, h => by
    have := flatT_at ts i x (by simpa using h)
    have e : flatT (y :: ts) = .int .i64 y.1 :: .int .i64 y.2 :: flatT ts := by simp [flatT]
    rw [e, show (i + 1) * 2 = i * 2 + 1 + 1 by omega]
    simpa using this

/-- An append onto a row of the call's own, from block n on, turns none of the known blocks. -/
theorem Inv.grow {w w1 w2 : World} {n : Nat} {bs : List (Nat × TypeId × Array Value)} {row : Option Nat} (h : Inv w n bs w1) (hg : w1.grownBy w2 row) (hr : ∀ g, row = some g → n ≤ g ∧ w.heap.size ≤ g) : Inv w n bs w2 :=
  ⟨h.below.grown hg h.below.size (fun k hk => (hr k hk).2), Nat.le_trans h.room hg.size, fun x hx => ⟨(h.blk x hx).1, (h.blk x hx).2.1, (h.blk x hx).2.2.kept hg (by intro e; have := (hr _ e).1; have := (h.blk x hx).2.1; omega)⟩⟩

/-- Four tags at a row's beginning. -/
theorem tags_of_take {cr : Array Value} {ts : List (Int × Int)} (h : cr.toList.take (4 * 2) = flatT (ts.take 4)) : ∀ i x, i < 4 → ts[i]? = some x → TagAt cr i x := by
  intro i x hi hx
  have h1 := flatT_at (ts.take 4) i x (by rw [List.getElem?_take_of_lt hi]; exact hx)
  rw [← h, List.getElem?_take_of_lt (by omega), List.getElem?_take_of_lt (by omega)] at h1
  exact ⟨by simpa using h1.1, by simpa using h1.2⟩

/-- What a join leaves: the joined tags in a row of its own. -/
def JoinedP (w : World) (ts : List (Int × Int)) (e : Ending) (w' : World) : Prop :=
  ∃ (g cap : Nat) (T : TypeId) (cur : Array Value), e = .returned (.agg #[.slice (some ⟨g, 0, none⟩) 4 cap]) ∧ w.heap.size ≤ g ∧ Blk w' g T cur ∧ 8 ≤ cur.size ∧ (∀ i x, ts[i]? = some x → TagAt cur i x) ∧ Below w.heap.size w w'

/-- The eight cells of a vector in the midst of a join. -/
def jcells (x0 x1 x2 x3 y0 y1 y2 y3 : Int × Int) (k : Nat) : Array Value :=
  match k with
  | 0 => #[.int .i64 x0.1, .int .i64 x0.2, .int .i64 x1.1, .int .i64 x1.2, .int .i64 x2.1, .int .i64 x2.2, .int .i64 x3.1, .int .i64 x3.2]
  | 1 => #[.int .i64 (mxp x0 y0).1, .int .i64 (mxp x0 y0).2, .int .i64 x1.1, .int .i64 x1.2, .int .i64 x2.1, .int .i64 x2.2, .int .i64 x3.1, .int .i64 x3.2]
  | 2 => #[.int .i64 (mxp x0 y0).1, .int .i64 (mxp x0 y0).2, .int .i64 (mxp x1 y1).1, .int .i64 (mxp x1 y1).2, .int .i64 x2.1, .int .i64 x2.2, .int .i64 x3.1, .int .i64 x3.2]
  | 3 => #[.int .i64 (mxp x0 y0).1, .int .i64 (mxp x0 y0).2, .int .i64 (mxp x1 y1).1, .int .i64 (mxp x1 y1).2, .int .i64 (mxp x2 y2).1, .int .i64 (mxp x2 y2).2, .int .i64 x3.1, .int .i64 x3.2]
  | _ => #[.int .i64 (mxp x0 y0).1, .int .i64 (mxp x0 y0).2, .int .i64 (mxp x1 y1).1, .int .i64 (mxp x1 y1).2, .int .i64 (mxp x2 y2).1, .int .i64 (mxp x2 y2).2, .int .i64 (mxp x3 y3).1, .int .i64 (mxp x3 y3).2]

end Go.Proofs.YtnaggcdhimcilaaGreat
/- Contracts of PastJoin and PastNone, in the program and in the model. Condition: at most 1048576 tags. -/
namespace Go.Proofs.YtnaggcdhimcilaaGreat
open Go.RowKit Go.Joins

theorem tagAt_eight (z0 z1 z2 z3 : Int × Int) : ∀ i x, [z0, z1, z2, z3][i]? = some x → TagAt #[.int .i64 z0.1, .int .i64 z0.2, .int .i64 z1.1, .int .i64 z1.2, .int .i64 z2.1, .int .i64 z2.2, .int .i64 z3.1, .int .i64 z3.2] i x := by
  intro i x h
  match i with
  | 0 => simp at h; subst h; exact ⟨rfl, rfl⟩
  | 1 => simp at h; subst h; exact ⟨rfl, rfl⟩
  | 2 => simp at h; subst h; exact ⟨rfl, rfl⟩
  | 3 => simp at h; subst h; exact ⟨rfl, rfl⟩
  | n + 4 => simp at h

set_option maxHeartbeats 1000000 in
theorem past_any (z0 z1 z2 z3 : Int × Int) (w : World) :
    Calls Tryz.prog 171 #[.agg #[.int .i64 z0.1, .int .i64 z0.2, .int .i64 z1.1, .int .i64 z1.2, .int .i64 z2.1, .int .i64 z2.2, .int .i64 z3.1, .int .i64 z3.2]] w (JoinedP w [z0, z1, z2, z3]) := by
  have S0 := ((Inv.start w).box 176 #[.int .i64 z0.1, .int .i64 z0.2, .int .i64 z1.1, .int .i64 z1.2, .int .i64 z2.1, .int .i64 z2.2, .int .i64 z3.1, .int .i64 z3.2]).box 94 #[.slice none 0 0]
  simp only [World.size_alloc] at S0
  have L0 := S0.below
  clear S0
  go_enter Tryz.func171, Tryz.ntmps171
  go_wp2
  refine bodyPost_ret (v := .agg #[.slice (some ⟨w.heap.size, 0, none⟩) 4 4]) (by simp [results, Tryz.results171, go_sem]) rfl ?_
  exact ⟨w.heap.size, 4, 176, #[.int .i64 z0.1, .int .i64 z0.2, .int .i64 z1.1, .int .i64 z1.2, .int .i64 z2.1, .int .i64 z2.2, .int .i64 z3.1, .int .i64 z3.2], rfl, Nat.le_refl _, (Blk.made w 176 #[.int .i64 z0.1, .int .i64 z0.2, .int .i64 z1.1, .int .i64 z1.2, .int .i64 z2.1, .int .i64 z2.2, .int .i64 z3.1, .int .i64 z3.2]).more _, by simp, tagAt_eight z0 z1 z2 z3, below_alloc2 _ _ _⟩

abbrev z4 : List (Int × Int) := [(0, 0), (0, 0), (0, 0), (0, 0)]

end Go.Proofs.YtnaggcdhimcilaaGreat
