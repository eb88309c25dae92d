/- The law FnCrc (promise 42) holds: of a drawn text the sum is the model's, it is the one that is known of two texts, and with a bit of one byte turned it is another one. No condition. -/
import Derived.Test.YtieechelogkeoaaLift
import Derived.Test.YtieechelogkeoaaDrawCrc
import Derived.Test.YtieechelogkeoaaCrc3
import Derived.Test.YtieechelogkeoaaCrcPure2
import Derived.Test.YtieechelogkeoaaReg
namespace Go.Proofs.Ytieechelogkeoaa.FnCrc
open Go.ChangeShapes Go.WideShapes Go.ChangeAt Go.RowKit Go.Joins
attribute [local go_sem ↓] Go.wp_at_zero Go.wp_at_succ

theorem wrap_byte (jj : Nat) (h : jj < 8) : IntKind.u8.wrap ((2 : Int) ^ jj) = ((2 ^ jj : Nat) : Int) := by
  match jj, h with
  | 0, _ => rfl
  | 1, _ => rfl
  | 2, _ => rfl
  | 3, _ => rfl
  | 4, _ => rfl
  | 5, _ => rfl
  | 6, _ => rfl
  | 7, _ => rfl
  | n + 8, h => omega
/-- The text with one byte turned. -/
def turnS (s : ByteArray) (k z : Nat) : ByteArray := ⟨(s.data.toList.set k (UInt8.ofNat z)).toArray⟩
theorem turnS_size (s : ByteArray) (k z : Nat) : (turnS s k z).size = s.size := by
  show ((s.data.toList.set k (UInt8.ofNat z)).toArray).size = s.data.size
  simp
theorem turnS_at (s : ByteArray) (k z : Nat) (hz : z < 256) (j : Nat) (hj : j < s.size) : bt (turnS s k z) j = if j = k then z else bt s j := by
  have hj' : j < (turnS s k z).size := by rw [turnS_size]; exact hj
  rw [bt_at hj', bt_at hj]
  have key : ∀ h : j < ((s.data.toList.set k (UInt8.ofNat z)).toArray).size, (((s.data.toList.set k (UInt8.ofNat z)).toArray)[j]'h).toNat = if j = k then z else (s.data[j]'hj).toNat := by
    intro h
    rw [List.getElem_toArray, List.getElem_set]
    by_cases e : k = j
    · rw [if_pos e, if_pos e.symm, UInt8.toNat_ofNat']
      omega
    · rw [if_neg e, if_neg (fun e' => e e'.symm), Array.getElem_toList]
  exact key hj'
theorem turnS_crc (s : ByteArray) (k z : Nat) (hz : z < 256) (hk : k < s.size) (hne : z ≠ bt s k) : crcN (turnS s k z) (turnS s k z).size ^^^ 4294967295 ≠ crcN s s.size ^^^ 4294967295 := by
  intro e
  have e1 := xor_right e
  rw [turnS_size] at e1
  refine crc_turn (s := turnS s k z) (s' := s) (k := k) ?_ (fun j hj => ?_) s.size hk e1
  · rw [turnS_at s k z hz k hk, if_pos rfl]
    exact hne
  · by_cases h : j < s.size
    · rw [turnS_at s k z hz j h, if_neg hj]
    · unfold bt
      rw [dif_neg (by rw [turnS_size]; exact h), dif_neg h]
set_option maxHeartbeats 2000000 in
theorem specCrc_any (s : ByteArray) (w : World) (hs : s.size ≤ 1048576) : Calls Try.prog 16 #[.string s] w fun e w' => e = .returned (.int .i64 ((crcN s s.size ^^^ 4294967295 : Nat) : Int)) ∧ w = w' := by
  go_enter Try.func16, Try.ntmps16
  go_wp2_with fail
  refine (l7Crc_any s w hs).mono ?_
  rintro e w1 ⟨rfl, rfl⟩
  go_wp2
  go_ret
  exact ⟨rfl, rfl⟩
set_option maxRecDepth 100000 in
set_option maxHeartbeats 4000000 in
theorem walk (a : Option Addr) (len cap : Nat) (a' : Option Addr) (len' cap' : Nat) (w : World) (hc : Code0 w a len cap) (_hc' : Code0 w a' len' cap') :
    Calls Try.prog 4 #[.slice a len cap, .slice a' len' cap'] w fun e w' => e = .returned (.bool true) ∧ Below w.heap.size w w' := by
  by_cases h1 : 1048576 < len
  · have h1' : (1048576 : Int) < (len : Int) := by omega
    go_enter Try.func4, Try.ntmps4
    go_wp2
    go_ret
    exact ⟨rfl, Below.refl _ _⟩
  by_cases h2 : 1048576 < len'
  · have h1' : (len : Int) ≤ 1048576 := by omega
    have h2' : (1048576 : Int) < (len' : Int) := by omega
    go_enter Try.func4, Try.ntmps4
    go_wp2
    go_ret
    exact ⟨rfl, Below.refl _ _⟩
  have h1' : (len : Int) ≤ 1048576 := by omega
  have h2' : (len' : Int) ≤ 1048576 := by omega
  go_enter Try.func4, Try.ntmps4
  go_wp2_with fail
  refine (drawCrc_any w a len cap hc (by omega)).mono ?_
  rintro e w1 ⟨s, hs, rfl, hb1⟩
  clear hc
  have hs' : s.size ≤ 1048576 := by omega
  go_wp2_with fail
  have HF0 : Hid (s.size = 0 → crcN s s.size ^^^ 4294967295 = 0) := fun e => by rw [e]; exact Nat.xor_self 4294967295
  have hfl := xor_lt32 (crcN_lt s s.size) (show 4294967295 < 4294967296 by decide)
  obtain ⟨f, hf⟩ : ∃ f, f = crcN s s.size ^^^ 4294967295 := ⟨_, rfl⟩
  rw [← hf] at HF0 hfl
  have HF := hide hf
  clear hf
  refine (implCrc_any s w1 hs').mono ?_
  rw [← HF.out]
  rintro e w2 ⟨rfl, hb2⟩
  have L2 := hb1.trans (hb2.mono hb1.size)
  clear hb1 hb2
  go_wp2_with fail
  refine (specCrc_any s w2 hs').mono ?_
  rw [← HF.out]
  rintro e w3 ⟨rfl, rfl⟩
  go_wp2_with fail
  have CT := implCrc_any ⟨#[49, 50, 51, 52, 53, 54, 55, 56, 57]⟩ w2 (by decide)
  rw [show (ByteArray.mk #[49, 50, 51, 52, 53, 54, 55, 56, 57]).size = 9 from rfl, crc_nine] at CT
  with_reducible refine CT.mono ?_
  clear CT
  rintro e w3 ⟨rfl, hb3⟩
  have L3 := L2.trans (hb3.mono L2.size)
  clear L2 hb3
  go_wp2_with fail
  have CT := implCrc_any ⟨#[]⟩ w3 (by decide)
  rw [show crcN (ByteArray.mk #[]) (ByteArray.mk #[]).size ^^^ 4294967295 = 0 from rfl] at CT
  with_reducible refine CT.mono ?_
  clear CT
  rintro e w4 ⟨rfl, hb4⟩
  have L4 := L3.trans (hb4.mono L3.size)
  clear L3 hb4
  by_cases h0 : s.size = 0
  · have hf0 : (f : Int) = 0 := by have := HF0.out h0; omega
    have h0' : (s.size : Int) = 0 := by omega
    go_wp2
    go_ret
    exact ⟨rfl, L4⟩
  · have h0' : ¬ ((s.size : Int) = 0) := by omega
    have h0b : ((s.size : Int) == 0) = false := by simpa using h0
    have hcv := run_bytes_of_string (P := Try.prog) w4 9 22 5 s Try.underlying9 Try.underlying22 Try.underlying5
    have L5 := L4.trans ((Below.refl w4.heap.size w4).drew.mono L4.size)
    generalize grownCap w4 s.size 0 5 = cp at hcv
    obtain ⟨kk, hkk⟩ : ∃ kk, kk = len' % s.size := ⟨_, rfl⟩
    obtain ⟨jj, hjj⟩ : ∃ jj, jj = len' % 8 := ⟨_, rfl⟩
    have e8 : (len' : Int) % (s.size : Int) = (kk : Int) := by rw [hkk]; first | rfl | exact (Int.natCast_emod len' s.size).symm | exact (Int.natCast_mod len' s.size).symm
    have e9 : (len' : Int) % 8 = (jj : Int) := by omega
    have hk : kk < s.size := by rw [hkk]; exact Nat.mod_lt _ (by omega)
    have hj : jj < 8 := by omega
    have LW : Below w.heap.size w (w4.alloc (.cells (bytesRow s cp) 5 ((bytesRow s cp).size, (bytesRow s cp).size + 1))).drew := (L4.trans ((below_alloc1 w4 _).mono L4.size)).drew
    have CM : ∀ j, (w4.alloc (.cells (bytesRow s cp) 5 ((bytesRow s cp).size, (bytesRow s cp).size + 1))).drew.cell? ⟨w4.heap.size, j, none⟩ = (bytesRow s cp)[j]? := fun j => World.cell?_alloc_mark w4 _ _ _ j
    have FM : ∀ j, (w4.alloc (.cells (bytesRow s cp) 5 ((bytesRow s cp).size, (bytesRow s cp).size + 1))).drew.frozen? ⟨w4.heap.size, j, none⟩ = (decide ((bytesRow s cp).size ≤ j) && decide (j < (bytesRow s cp).size + 1)) := fun j => World.frozen?_alloc_mark w4 _ _ _ _ j
    have HLW := hide LW
    have HCM := hide CM
    have HFM := hide FM
    have hlo := L4.size
    clear LW CM FM L4 hkk hjj L5
    go_wp2_with fail
    generalize (w4.alloc (.cells (bytesRow s cp) 5 ((bytesRow s cp).size, (bytesRow s cp).size + 1))).drew = W5 at HLW HCM HFM ⊢
    generalize w4.heap.size = g at HCM HFM hlo ⊢
    clear hcv
    obtain ⟨x, hx⟩ : ∃ x, x = bt s kk := ⟨_, rfl⟩
    have hx256 : x < 256 := by rw [hx]; exact bt_lt s kk
    have C0 : Hid (W5.cell? ⟨g, kk, none⟩ = some (.int .u8 (x : Int))) := by
      unfold Hid
      rw [HCM.out, bytesRow_at s cp kk hk, hx, bt_at hk]
      rfl
    have F0 : Hid (W5.frozen? ⟨g, kk, none⟩ = false) := by
      unfold Hid
      rw [HFM.out]
      have : ¬ ((bytesRow s cp).size ≤ kk) := by
        have h9 := bytesRow_at s cp kk hk
        have := (Array.getElem?_eq_some_iff.1 h9).1
        omega
      simp [this]
    have c0 := C0.out
    have f0 := F0.out
    have i1 : (0 : Int) ≤ (kk : Int) := by omega
    have i2 : (kk : Int) < (s.size : Int) := by omega
    have HX := hide hx
    clear hx
    have e10 : (len' : Int).tmod 8 = (jj : Int) := by rw [Int.tmod_eq_emod_of_nonneg (by omega)]; exact e9
    have hsh := wrap_byte jj hj
    have hy0 : 2 ^ jj ≠ 0 := Nat.pos_iff_ne_zero.1 (Nat.two_pow_pos jj)
    have hy1 : 2 ^ jj < 256 := Nat.pow_lt_pow_right (by omega) hj
    obtain ⟨y, hy⟩ : ∃ y, y = 2 ^ jj := ⟨_, rfl⟩
    rw [← hy] at hsh hy0 hy1
    have hxr := u8_xor_nat x y hx256 hy1
    have hz : x ^^^ y < 256 := Nat.xor_lt_two_pow (n := 8) hx256 hy1
    have hzx : x ^^^ y ≠ x := fun e => hy0 (by
      have e2 : x ^^^ (x ^^^ y) = x ^^^ x := by rw [e]
      rw [← Nat.xor_assoc, Nat.xor_self, Nat.zero_xor] at e2
      exact e2)
    obtain ⟨z, ez⟩ : ∃ z, z = x ^^^ y := ⟨_, rfl⟩
    rw [← ez] at hxr hz hzx
    clear hy ez
    have c1 : W5.drew.cell? ⟨g, kk, none⟩ = some (.int .u8 (x : Int)) := C0.out
    have f1 : W5.drew.frozen? ⟨g, kk, none⟩ = false := F0.out
    refine wp_region_noPanic ?_
    refine wp_region_held_drew (S := (fun w' => Below w.heap.size w w')) (by kernel_rfl) (by exact HLW.out.drew) (fun hHeld => ?_)
    refine take_run 0 (some 45) (v := ?_) rfl rfl (by kernel_rfl) (by kernel_rfl) (by kernel_rfl) (fun _ _ _ h => h) (by rfl) ?_ hHeld ?_
    rotate_left
    · ((intro w hSw); (try dsimp only at hSw); go_simp <;> with_reducible rfl)
    simp only [Act.put, List.setIfInBounds_toArray, List.set_cons_zero, List.set_cons_succ]
    refine take_run 1 (some 46) (v := ?_) rfl rfl (by kernel_rfl) (by kernel_rfl) (by kernel_rfl) (fun _ _ _ h => h) (by rfl) ?_ hHeld ?_
    rotate_left
    · ((intro w hSw); (try dsimp only at hSw); go_simp <;> with_reducible rfl)
    simp only [Act.put, List.setIfInBounds_toArray, List.set_cons_zero, List.set_cons_succ]
    refine take_run 2 (some 47) (v := ?_) rfl rfl (by kernel_rfl) (by kernel_rfl) (by kernel_rfl) (fun _ _ _ h => h) (by rfl) ?_ hHeld ?_
    rotate_left
    · ((intro w hSw); (try dsimp only at hSw); go_simp <;> with_reducible rfl)
    simp only [Act.put, List.setIfInBounds_toArray, List.set_cons_zero, List.set_cons_succ]
    refine take_run 3 (some 48) (v := ?_) rfl rfl (by kernel_rfl) (by kernel_rfl) (by kernel_rfl) (fun _ _ _ h => h) (by rfl) ?_ hHeld ?_
    rotate_left
    · ((intro w hSw); (try dsimp only at hSw); go_simp <;> with_reducible rfl)
    simp only [Act.put, List.setIfInBounds_toArray, List.set_cons_zero, List.set_cons_succ]
    refine take_run 4 (some 49) (v := ?_) rfl rfl (by kernel_rfl) (by kernel_rfl) (by kernel_rfl) (fun _ _ _ h => h) (by rfl) ?_ hHeld ?_
    rotate_left
    · ((intro w hSw); (try dsimp only at hSw); go_simp <;> with_reducible rfl)
    simp only [Act.put, List.setIfInBounds_toArray, List.set_cons_zero, List.set_cons_succ]
    refine take_run 6 (some 51) (v := ?_) rfl rfl (by kernel_rfl) (by kernel_rfl) (by kernel_rfl) (fun _ _ _ h => h) (by rfl) ?_ hHeld ?_
    rotate_left
    · ((intro w hSw); (try dsimp only at hSw); go_simp <;> with_reducible rfl)
    simp only [Act.put, List.setIfInBounds_toArray, List.set_cons_zero, List.set_cons_succ]
    refine take_run 7 (some 52) (v := ?_) rfl rfl (by kernel_rfl) (by kernel_rfl) (by kernel_rfl) (fun _ _ _ h => h) (by rfl) ?_ hHeld ?_
    rotate_left
    · ((intro w hSw); (try dsimp only at hSw); go_simp <;> with_reducible rfl)
    simp only [Act.put, List.setIfInBounds_toArray, List.set_cons_zero, List.set_cons_succ]
    refine take_run 8 (some 53) (v := ?_) rfl rfl (by kernel_rfl) (by kernel_rfl) (by kernel_rfl) (fun _ _ _ h => h) (by rfl) ?_ hHeld ?_
    rotate_left
    · ((intro w hSw); (try dsimp only at hSw); go_simp <;> with_reducible rfl)
    simp only [Act.put, List.setIfInBounds_toArray, List.set_cons_zero, List.set_cons_succ]
    refine take_run 9 (some 54) (v := ?_) rfl rfl (by kernel_rfl) (by kernel_rfl) (by kernel_rfl) (fun _ _ _ h => h) (by rfl) ?_ hHeld ?_
    rotate_left
    · ((intro w hSw); (try dsimp only at hSw); go_simp <;> with_reducible rfl)
    simp only [Act.put, List.setIfInBounds_toArray, List.set_cons_zero, List.set_cons_succ]
    refine take_one 5 (by kernel_rfl) rfl (fun K hK => ?_)
    go_simp
    refine hK.out _ _ (by exact hHeld) (fun hHeld => ?_)
    clear hK K
    refine take_run 10 (some 55) (v := ?_) rfl rfl (by kernel_rfl) (by kernel_rfl) (by kernel_rfl) (fun _ _ _ h => h) (by rfl) ?_ hHeld ?_
    rotate_left
    · ((intro w hSw); (try dsimp only at hSw); go_simp <;> with_reducible rfl)
    simp only [Act.put, List.setIfInBounds_toArray, List.set_cons_zero, List.set_cons_succ]
    refine take_run 11 (some 56) (v := ?_) rfl rfl (by kernel_rfl) (by kernel_rfl) (by kernel_rfl) (fun _ _ _ h => h) (by rfl) ?_ hHeld ?_
    rotate_left
    · ((intro w hSw); (try dsimp only at hSw); go_simp <;> with_reducible rfl)
    simp only [Act.put, List.setIfInBounds_toArray, List.set_cons_zero, List.set_cons_succ]
    refine take_one 12 (by kernel_rfl) rfl (fun K hK => ?_)
    go_simp
    refine hK.out _ _ (by exact hHeld.setCell (p := ⟨g, kk, none⟩) (by simp only; omega) _) (fun hHeld => ?_)
    clear hK K
    refine wpAnyH_done (by kernel_rfl) ?_ _
    refine NoPanic.normal ?_
    have L6 := hHeld
    have hne := turnS_crc s kk z hz hk (by rw [← HX.out]; exact hzx)
    have hsz := turnS_size s kk z
    have hfl' := xor_lt32 (crcN_lt (turnS s kk z) (turnS s kk z).size) (show 4294967295 < 4294967296 by decide)
    rw [← HF.out] at hne
    obtain ⟨f', hf'⟩ : ∃ f', f' = crcN (turnS s kk z) (turnS s kk z).size ^^^ 4294967295 := ⟨_, rfl⟩
    rw [← hf'] at hne hfl'
    have HF' := hide hf'
    have hcv2 : (convert 22 9 (.slice (some ⟨g, 0, none⟩) s.size cp)).run Try.prog (W5.setCell ⟨g, kk, none⟩ (.int .u8 (z : Int))).drew = .ok (.string (turnS s kk z)) (W5.setCell ⟨g, kk, none⟩ (.int .u8 (z : Int))).drew := by
      have hl : (s.data.toList.set kk (UInt8.ofNat z)).length = s.size := by rw [List.length_set]; rfl
      have := run_convert_bytes_back (P := Try.prog) (W5.setCell ⟨g, kk, none⟩ (.int .u8 (z : Int))).drew 22 9 5 ⟨g, 0, none⟩ cp (s.data.toList.set kk (UInt8.ofNat z)) Try.underlying22 Try.underlying5 Try.underlying9 (fun j hj => by
        have e1 : (⟨g, 0, none⟩ : Addr).add j = ⟨g, j, none⟩ := by
          unfold Addr.add
          by_cases hj0 : j = 0
          · simp [hj0]
          · simp [hj0]
        rw [e1]
        have hjs : j < s.data.size := by rw [List.length_set] at hj; exact hj
        show (W5.setCell ⟨g, kk, none⟩ (.int .u8 (z : Int))).cell? ⟨g, j, none⟩ = _
        by_cases e : kk = j
        · subst e
          rw [show (W5.setCell ⟨g, kk, none⟩ (.int .u8 (z : Int))).cell? ⟨g, kk, none⟩ = some (.int .u8 (z : Int)) by first | exact World.cell?_setCell_same _ _ _ C0.out | exact World.cell?_setCell_same _ _ C0.out | exact World.cell?_setCell_same _ C0.out, List.getElem_set_self, UInt8.toNat_ofNat']
          rw [show z % 2 ^ 8 = z by omega]
        · rw [show (W5.setCell ⟨g, kk, none⟩ (.int .u8 (z : Int))).cell? ⟨g, j, none⟩ = W5.cell? ⟨g, j, none⟩ by first | exact World.cell?_setCell_other _ _ _ _ (fun h => e (by injection h)) | exact World.cell?_setCell_other _ _ _ (fun h => e (by injection h)) | exact World.cell?_setCell_other _ _ (fun h => e (by injection h)), HCM.out, bytesRow_at s cp j hjs, List.getElem_set_ne e, Array.getElem_toList])
      rw [hl] at this
      exact this
    clear hHeld c0 c1 f0 f1 hf' C0 F0 HCM HFM
    have hne' : ¬ ((f' : Int) = (f : Int)) := by omega
    have hneb : ((f' : Int) == (f : Int)) = false := by simpa using hne'
    have hneb2 : ((f' : Int) != (f : Int)) = true := by rw [bne, hneb]; rfl
    have g1 : (0 : Int) ≤ (f : Int) := by omega
    have g2 : (f : Int) ≤ 4294967295 := by omega
    go_wp2_with fail
    have CT := implCrc_any (turnS s kk z) (W5.setCell ⟨g, kk, none⟩ (.int .u8 (z : Int))).drew (by rw [hsz]; exact hs')
    rw [← HF'.out] at CT
    with_reducible refine CT.mono ?_
    clear CT
    rintro e w9 ⟨rfl, hb9⟩
    have L9 := L6.trans (hb9.mono L6.size)
    clear hb9 L6 hcv2
    go_wp2
    go_ret
    exact ⟨rfl, L9⟩

set_option maxRecDepth 100000 in
theorem lifted (os : Os) (started : os.Started) (H : Type) (enc : TypeId × Value → H) :
    ReturnsInHanded {} Try.checked os 4 .any (Rows.fnCrcSpec.pre6 enc Try.prog Try.f4 Rows.fnCrcRow.domain false) (Rows.fnCrcSpec.post enc Try.prog Try.f4 false true false false) := by
  refine returnsInHanded_of_change (C := Try.checked) own started (by kernel_rfl) Try.func4
    (ChangeSpec.witness6 (enc := enc) (C := Try.checked) false ⟨#[], #[.slice none 0 0, .slice none 0 0], []⟩ 8 (by kernel_rfl) (by kernel_rfl) (by kernel_rfl) (by kernel_rfl)) ?_
  intro W base args ds gs before hval0 hW hcnd _
  have hval : ∀ (j : Nat) t v, Try.f4.params[j]? = some t → args[j]? = some v → Value.okWide Try.prog W .any base t v := hval0
  have hW' := hW
  obtain ⟨p, q, hA0, hV, rfl, hfz, hnd⟩ := hW
  have hA : DataW.TrodAll enc Try.prog W 0 (fun _ => true) true Try.f4.params.toList args.toList ds p := hA0
  rw [Try.params4] at hA hval
  have hK := hA
  obtain ⟨v0, vs0, d0, ds0, p0, q0, hargs, rfl, rfl, h0, r0⟩ := trodAll_cons hA
  obtain ⟨v1, vs1, d1, ds1, p1, q1, rfl, rfl, rfl, h1, r1⟩ := trodAll_cons r0
  obtain ⟨rfl, rfl, rfl⟩ := trodAll_nil r1
  obtain rfl : args = #[v0, v1] := by cases args; simp_all
  obtain ⟨rfl, rfl⟩ := trodVars_none hV
  obtain ⟨a0, len0, cap0, rfl, b0⟩ := read_bytes (hval 0 22 v0 rfl rfl) h0
  obtain ⟨a1, len1, cap1, rfl, b1⟩ := read_bytes (hval 1 22 v1 rfl rfl) h1
  clear hA0 hval0
  refine (walk a0 len0 cap0 a1 len1 cap1 W b0 b1).mono fun e W' ⟨he, hb⟩ => ?_
  subst he
  have hK' := stay_all hb (by intro t ht; simp only [List.mem_cons, List.not_mem_nil, or_false] at ht; rcases ht with rfl | rfl <;> exact ⟨by kernel_rfl, of_decide_eq_true (by kernel_rfl)⟩) hK
  exact ⟨_, rfl, _, _, _, [], _, [], hW', trodAll_mk1 (shut_bool Try.underlying4 _), hK', rfl, hb.frame _, fun h => by cases h⟩

theorem over : Rows.fnCrcRow.holds Try.pinned (OpenSpec.ofChange Rows.fnCrcSpec) :=
  OpenClaim.holds_of_wide 4 Try.f4 rfl rfl rfl rfl rfl rfl rfl ⟨rfl, rfl, rfl, rfl, rfl⟩ rfl rfl rfl rfl rfl (by kernel_rfl) Try.func4
    (by refine joined_of ?_; kernel_rfl) (of_decide_eq_true (by kernel_rfl)) (by unfold Func.isWrapper; first | (rw [if_pos (by decide +kernel)]; kernel_rfl) | (rw [if_neg (by decide +kernel)]; exact ⟨rfl, rfl⟩))
    (fun os started H enc _ => lifted os started H enc)
end Go.Proofs.Ytieechelogkeoaa.FnCrc
namespace Go.Proofs.Ytieechelogkeoaa
/-- The statement itself. -/
theorem fnCrc_holds : Rows.FnCrcSaid := FnCrc.over
#print axioms fnCrc_holds
end Go.Proofs.Ytieechelogkeoaa
namespace Go.Proofs.Ytieechelogkeoaa.FnCrc
end Go.Proofs.Ytieechelogkeoaa.FnCrc
