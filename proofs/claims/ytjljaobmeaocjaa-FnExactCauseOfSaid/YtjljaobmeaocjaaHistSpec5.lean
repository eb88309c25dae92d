/- Contracts of the model's HistFar and HistOk. Condition: at most 1048576 records, a slice that is no longer than its room. -/
import Derived.Test.YtjljaobmeaocjaaHistSpec4
namespace Go.Proofs.Ytjljaobmeaocjaa
open Go.RowKit Go.Joins

set_option maxHeartbeats 2000000 in
theorem specHistFar_any (a : Option Addr) (c : Nat) (ds : List D) (w : World) (hn : ds.length ≤ 1048576) (hc : ds.length ≤ c) (hd : Dg w w.heap.size a ds) :
    Calls Try.prog 32 #[.slice a ds.length c] w fun e w' => e = .returned (.int .i64 (histFar ds)) ∧ Below w.heap.size w w' := by
  have C0 := hide (l6Form_any a c ds w hn hd)
  cases hf : formB ds
  · have HF := hide hf
    have HR : Hid (histFar ds = -1) := by unfold Hid histFar; rw [hf]; rfl
    clear hf
    go_enter Try.func32, Try.ntmps32
    go_wp2_with fail
    refine C0.out.mono ?_
    rintro e w1 ⟨rfl, hb1⟩
    rw [HF.out]
    go_wp2
    go_ret
    exact ⟨ret_int HR.out.symm, hb1⟩
  · have C1 := hide (fun W (h : Below w.heap.size w W) => l6Walk_any a c ds W hf hc ((hd.on h).up h.size))
    have HF := hide hf
    have HR : Hid (histFar ds = (farH ds : Int)) := by unfold Hid histFar; rw [hf]; rfl
    clear hf
    go_enter Try.func32, Try.ntmps32
    go_wp2_with fail
    refine C0.out.mono ?_
    rintro e w1 ⟨rfl, hb1⟩
    rw [HF.out]
    go_wp2_with fail
    refine (C1.out w1 hb1).mono ?_
    rintro e w2 ⟨k, st, gs, cap, rfl, hk, hR, hlen, h1, h2, h3, hb2⟩
    have hl := hb1.trans (hb2.mono hb1.size)
    have HK := hide hk
    clear hk hR hlen h3
    go_wp2
    go_ret
    exact ⟨ret_int (by rw [HR.out, HK.out]), hl⟩

set_option maxHeartbeats 2000000 in
theorem l6Ok_any (a : Option Addr) (c : Nat) (ds : List D) (w : World) (hn : ds.length ≤ 1048576) (hc : ds.length ≤ c) (hd : Dg w w.heap.size a ds) :
    Calls Try.prog 67 #[.slice a ds.length c] w fun e w' => e = .returned (.bool (histOk ds)) ∧ Below w.heap.size w w' := by
  have C0 := hide (l6Form_any a c ds w hn hd)
  have H : Hid (histOk ds = (histFar ds == (ds.length : Int))) := by unfold Hid histOk; rw [Bool.eq_iff_iff]; simp
  cases hf : formB ds
  · have HF := hide hf
    have HR : Hid (false = histOk ds) := by unfold Hid; rw [H.out]; unfold histFar; rw [hf]; symm; simp
    clear hf H
    go_enter Try.func67, Try.ntmps67
    go_wp2_with fail
    refine C0.out.mono ?_
    rintro e w1 ⟨rfl, hb1⟩
    rw [HF.out]
    go_wp2
    go_ret
    exact ⟨ret_bool HR.out, hb1⟩
  · have C1 := hide (fun W (h : Below w.heap.size w W) => l6Walk_any a c ds W hf hc ((hd.on h).up h.size))
    have HF := hide hf
    have HR : Hid (histFar ds = (farH ds : Int)) := by unfold Hid histFar; rw [hf]; rfl
    clear hf
    go_enter Try.func67, Try.ntmps67
    go_wp2_with fail
    refine C0.out.mono ?_
    rintro e w1 ⟨rfl, hb1⟩
    rw [HF.out]
    go_wp2_with fail
    refine (C1.out w1 hb1).mono ?_
    rintro e w2 ⟨k, st, gs, cap, rfl, hk, hR, hlen, h1, h2, h3, hb2⟩
    have hl := hb1.trans (hb2.mono hb1.size)
    have HK := hide hk
    clear hk hR hlen h3
    have HQ : Hid (((k : Int) == (ds.length : Int)) = histOk ds) := by unfold Hid; rw [H.out, HR.out, HK.out]
    clear H HR HK
    generalize ds.length = n at *
    go_wp2
    go_ret
    exact ⟨ret_bool HQ.out, hl⟩

set_option maxHeartbeats 2000000 in
theorem specHistOk_any (a : Option Addr) (c : Nat) (ds : List D) (w : World) (hn : ds.length ≤ 1048576) (hc : ds.length ≤ c) (hd : Dg w w.heap.size a ds) :
    Calls Try.prog 30 #[.slice a ds.length c] w fun e w' => e = .returned (.bool (histOk ds)) ∧ Below w.heap.size w w' := by
  have C0 := hide (l6Ok_any a c ds w hn hc hd)
  go_enter Try.func30, Try.ntmps30
  go_wp2_with fail
  refine C0.out.mono ?_
  rintro e w1 ⟨rfl, hb1⟩
  generalize hr : histOk ds = r
  have HRR := hide hr
  clear hr
  go_wp2
  go_ret
  exact ⟨ret_bool HRR.out.symm, hb1⟩
end Go.Proofs.Ytjljaobmeaocjaa
