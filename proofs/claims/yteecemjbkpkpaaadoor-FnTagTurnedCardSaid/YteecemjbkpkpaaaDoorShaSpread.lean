/- SHA-256: a block's words for all rounds: the program's way. -/
import Derived.Test.YteecemjbkpkpaaaDoorShaRow
namespace Go.Proofs.YteecemjbkpkpaaaDoor
open Go.ChangeShapes Go.WideShapes Go.ChangeAt Go.RowKit
set_option linter.unusedVariables false
set_option linter.unusedSimpArgs false
set_option maxRecDepth 100000

/-- What is known of the words so far. -/
def Sched (W : World) (b : Nat) (m : List Int) (k : Nat) : Prop := WB W b 69 (wsV m k ++ List.replicate (64 - k) 0)
theorem Sched.step {W : World} {b : Nat} {m : List Int} {k : Nat} (h : Sched W b m k) (hk : k < 64) {v : Int} (hv : wsV m (k + 1) = wsV m k ++ [v]) : Sched (W.setCell ⟨b, k, none⟩ (.int .u32 v)) b m (k + 1) := by
  have h1 := WB.set h k v
  unfold Sched
  rw [show 64 - k = (64 - (k + 1)) + 1 by omega, set_step (wsV_length m k) v, ← hv] at h1
  exact h1
theorem Sched.pre {W : World} {b : Nat} {m : List Int} {k : Nat} (h : Sched W b m k) {j : Nat} (hj : j < k) : W.cell? ⟨b, j, none⟩ = some (.int .u32 ((wsV m k).getD j 0)) :=
  WB.cell h (read_pre (by rw [wsV_length]; exact hj))
theorem Sched.zero {W : World} {b : Nat} {m : List Int} {k : Nat} (h : Sched W b m k) (hk : k < 64) : W.cell? ⟨b, k, none⟩ = some (.int .u32 0) := by
  unfold Sched at h
  rw [show 64 - k = (64 - (k + 1)) + 1 by omega] at h
  exact WB.cell h (read_zero (wsV_length m k))
set_option maxHeartbeats 2000000 in
theorem spread_c (s : ByteArray) (hs : s.size = 64) (w : World) :
    Calls Tryd.prog 47 #[.string s] w fun e w' => e = .returned (.agg (w32 (wsV (blockM s) 64)).toArray) ∧ Below w.heap.size w w' := by
  have HG := Lib.hid (fun z hz w => get_impl z hz w)
  have HS := Lib.hid hs
  have hss : s.size = 64 := hs
  clear hs
  go_enter Tryd.func47, Tryd.ntmps47
  go_wp2_with fail
  rw [z64]
  have R0 : WB ((w.alloc (.cells (w32 zeros64).toArray 69)).alloc (.cells (w32 zeros64).toArray 69)) w.heap.size 69 zeros64 := (WB.new w _ _).alloc _
  have Q0 : Sched ((w.alloc (.cells (w32 zeros64).toArray 69)).alloc (.cells (w32 zeros64).toArray 69)) (w.heap.size + 1) (blockM s) 0 := by
    have := WB.new (w.alloc (.cells (w32 zeros64).toArray 69)) 69 zeros64
    simpa [Sched, wsV, zeros64] using this
  have B0 := below_two w (.cells (w32 zeros64).toArray 69) (.cells (w32 zeros64).toArray 69)
  generalize (w.alloc (.cells (w32 zeros64).toArray 69)).alloc (.cells (w32 zeros64).toArray 69) = W0 at R0 Q0 B0 ⊢
  obtain ⟨b, hb⟩ : ∃ b, w.heap.size + 1 = b := ⟨_, rfl⟩
  have hbw : w.heap.size < b := by omega
  rw [hb] at Q0 ⊢
  clear hb
  obtain ⟨m, hm⟩ : ∃ m, blockM s = m := ⟨_, rfl⟩
  have H32 := Lib.hid (show ∀ x ∈ m, U32 x from hm ▸ blockM_32 s)
  have HM := Lib.hid hm
  rw [hm] at Q0
  clear hm
  go_loopw [4, 5, 6, 7] (fun a n f i wr => ∃ k : Nat, k ≤ 64 ∧ i = .int .i64 k ∧ Sched wr b m k ∧ WB wr w.heap.size 69 zeros64 ∧ Below w.heap.size w wr) (fun _ _ _ i _ => 64 - (intOf i).toNat)
  case atStart => exact ⟨0, by omega, rfl, Q0, R0, B0⟩
  case round =>
    obtain ⟨k, hk, rfl, Q, R, B⟩ := hrel
    clear Q0 R0 B0
    have hbn : w.heap.size ≠ b := by omega
    by_cases hlt : k < 64
    · have c0 := Q.zero hlt
      have f0 : wr.frozen? ⟨b, k, none⟩ = false := WB.thaw Q k
      have hlt' : (k : Int) < 64 := by omega
      by_cases h16 : k < 16
      · have h16' : (k : Int) < 16 := by omega
        have s0 : (0 : Int) ≤ 4 * (k : Int) := by omega
        have s1 : 4 * (k : Int) ≤ 4 * (k : Int) + 4 := by omega
        have s2 : 4 * (k : Int) + 4 ≤ 64 := by omega
        go_wp2_with fail
        refine (HG.out _ (by simp [ByteArray.size_extract]; omega) _).mono ?_
        rintro e w1 ⟨rfl, rfl⟩
        have hN := wsV_first (m := m) h16
        rw [← HM.out, blockM_getD s h16, HM.out] at hN
        have hgb := getB_bound (s.extract (4 * k) (4 * k + 4)) (extract4_size s k)
        generalize getB (s.extract (4 * k) (4 * k + 4)) = v at hN hgb ⊢
        have hv : IntKind.u32.wrap v = v := IntWalk.u32_in _ (by omega)
        have HN := Lib.hid hN
        clear hN
        go_wp2_with fail
        go_roundw
        case rel => exact ⟨k + 1, by omega, by go_num, Q.step hlt HN.out, R.other hbn _ _, B.setCell (p := ⟨b, k, none⟩) (by show w.heap.size ≤ b; omega) _⟩
        case measure => simp [intOf]; omega
      · have h16' : ¬ (k : Int) < 16 := by omega
        have x2 := Q.pre (j := k - 2) (by omega)
        have x15 := Q.pre (j := k - 15) (by omega)
        have x7 := Q.pre (j := k - 7) (by omega)
        have x16 := Q.pre (j := k - 16) (by omega)
        have hN := wsV_later (m := m) h16
        have hL := wsV_length m k
        have h32 := all32_getD (wsV_32 H32.out k)
        have u2 := h32 (k - 2)
        have u15 := h32 (k - 15)
        unfold newW at hN
        rw [hL] at hN
        generalize (wsV m k).getD (k - 2) 0 = y2 at x2 hN u2
        generalize (wsV m k).getD (k - 15) 0 = y15 at x15 hN u15
        generalize (wsV m k).getD (k - 7) 0 = y7 at x7 hN
        generalize (wsV m k).getD (k - 16) 0 = y16 at x16 hN
        have HN := Lib.hid hN
        have T17 := Lib.hid (fun w => turned17_c y2 u2 w)
        have T19 := Lib.hid (fun w => turned19_c y2 u2 w)
        have T7 := Lib.hid (fun w => turned7_c y15 u15 w)
        have T18 := Lib.hid (fun w => turned18_c y15 u15 w)
        clear hN hL h32 u2 u15
        have i2 : IntKind.i64.wrap ((k : Int) - 2) = ((k - 2 : Nat) : Int) := by rw [IntWalk.i64_in _ (by omega)]; omega
        have i15 : IntKind.i64.wrap ((k : Int) - 15) = ((k - 15 : Nat) : Int) := by rw [IntWalk.i64_in _ (by omega)]; omega
        have i7 : IntKind.i64.wrap ((k : Int) - 7) = ((k - 7 : Nat) : Int) := by rw [IntWalk.i64_in _ (by omega)]; omega
        have i16 : IntKind.i64.wrap ((k : Int) - 16) = ((k - 16 : Nat) : Int) := by rw [IntWalk.i64_in _ (by omega)]; omega
        have l2 : ((k - 2 : Nat) : Int) < 64 := by omega
        have l15 : ((k - 15 : Nat) : Int) < 64 := by omega
        have l7 : ((k - 7 : Nat) : Int) < 64 := by omega
        have l16 : ((k - 16 : Nat) : Int) < 64 := by omega
        go_wp2_with fail
        go_quiet (fail)
        go_wp2_with fail
        refine (T17.out _).mono ?_
        rintro e w1 ⟨rfl, rfl⟩
        go_wp2_with fail
        refine (T19.out _).mono ?_
        rintro e w1 ⟨rfl, rfl⟩
        go_wp2_with fail
        refine (T7.out _).mono ?_
        rintro e w1 ⟨rfl, rfl⟩
        go_wp2_with fail
        refine (T18.out _).mono ?_
        rintro e w1 ⟨rfl, rfl⟩
        go_wp2_with fail
        obtain ⟨z5, hz5⟩ : ∃ z, bits .xor .u32 (bits .xor .u32 (rotV 32768 131072 y2) (rotV 8192 524288 y2)) (y2 / 1024) = z := ⟨_, rfl⟩
        obtain ⟨z6, hz6⟩ : ∃ z, bits .xor .u32 (bits .xor .u32 (rotV 33554432 128 y15) (rotV 16384 262144 y15)) (y15 / 8) = z := ⟨_, rfl⟩
        rw [hz5, hz6]
        have HN2 := Lib.hid (show wsV m (k + 1) = wsV m k ++ [IntKind.u32.wrap (IntKind.u32.wrap (IntKind.u32.wrap (y16 + z6) + y7) + z5)] by
          rw [HN.out, ← hz5, ← hz6]
          simp only [IntKind.wrap_u32', sg0, sg1])
        clear hz5 hz6 x2 x15 T17 T19 T7 T18 i2 i15 l2 l15 HN
        refine wp_region_any (by kernel_rfl) ?_
        try (change wpAny _ _ _ _ _ _ _ (World.drew _))
        (refine wpAny_take (i := 0) (v := ?_) rfl (by kernel_rfl) (by kernel_rfl) (by kernel_rfl) (fun _ _ _ h => h) (Or.inl ⟨by rfl, ?_⟩) ?_; rotate_left 1; focus (intro w; go_simp; try with_reducible rfl))
        (refine wpAny_take (i := 1) (v := ?_) rfl (by kernel_rfl) (by kernel_rfl) (by kernel_rfl) (fun _ _ _ h => h) (Or.inl ⟨by rfl, ?_⟩) ?_; rotate_left 1; focus (intro w; go_simp; try with_reducible rfl))
        (refine wpAny_take (i := 2) (v := ?_) rfl (by kernel_rfl) (by kernel_rfl) (by kernel_rfl) (fun _ _ _ h => h) (Or.inl ⟨by rfl, ?_⟩) ?_; rotate_left 1; focus (intro w; go_simp; try with_reducible rfl))
        (refine wpAny_take (i := 3) (v := ?_) rfl (by kernel_rfl) (by kernel_rfl) (by kernel_rfl) (fun _ _ _ h => h) (Or.inl ⟨by rfl, ?_⟩) ?_; rotate_left 1; focus (intro w; go_simp; try with_reducible rfl))
        (refine wpAny_take (i := 5) (v := ?_) rfl (by kernel_rfl) (by kernel_rfl) (by kernel_rfl) (fun _ _ _ h => h) (Or.inl ⟨by rfl, ?_⟩) ?_; rotate_left 1; focus (intro w; go_simp; try with_reducible rfl))
        (refine wpAny_take (i := 7) (v := ?_) rfl (by kernel_rfl) (by kernel_rfl) (by kernel_rfl) (fun _ _ _ h => h) (Or.inl ⟨by rfl, ?_⟩) ?_; rotate_left 1; focus (intro w; go_simp; try with_reducible rfl))
        (refine wpAny_take (i := 8) (v := ?_) rfl (by kernel_rfl) (by kernel_rfl) (by kernel_rfl) (fun _ _ _ h => h) (Or.inl ⟨by rfl, ?_⟩) ?_; rotate_left 1; focus (intro w; go_simp; try with_reducible rfl))
        (refine wpAny_take (i := 9) (v := ?_) rfl (by kernel_rfl) (by kernel_rfl) (by kernel_rfl) (fun _ _ _ h => h) (Or.inl ⟨by rfl, ?_⟩) ?_; rotate_left 1; focus (intro w; go_simp; try with_reducible rfl))
        (refine wpAny_take (i := 12) (v := ?_) rfl (by kernel_rfl) (by kernel_rfl) (by kernel_rfl) (fun _ _ _ h => h) (Or.inl ⟨by rfl, ?_⟩) ?_; rotate_left 1; focus (intro w; go_simp; try with_reducible rfl))
        refine wpAny_ready (rs := [4, 10]) (by kernel_rfl) (by simp) ?_
        refine AllReady.cons rfl (fun K hK => ?_) (AllReady.cons rfl (fun K hK => ?_) AllReady.nil)
        · go_simp
          refine hK _ _ ?_
          clear hK K
          (refine wpAny_take (i := 6) (v := ?_) rfl (by kernel_rfl) (by kernel_rfl) (by kernel_rfl) (fun _ _ _ h => h) (Or.inl ⟨by rfl, ?_⟩) ?_; rotate_left 1; focus (intro w; go_simp; try with_reducible rfl))
          (refine wpAny_ready (rs := [10]) (by kernel_rfl) (by simp) ?_; refine AllReady.cons rfl (fun K hK => ?_) AllReady.nil; go_simp; refine hK _ _ ?_; clear hK K)
          (refine wpAny_take (i := 11) (v := ?_) rfl (by kernel_rfl) (by kernel_rfl) (by kernel_rfl) (fun _ _ _ h => h) (Or.inl ⟨by rfl, ?_⟩) ?_; rotate_left 1; focus (intro w; go_simp; try with_reducible rfl))
          (refine wpAny_take (i := 13) (v := ?_) rfl (by kernel_rfl) (by kernel_rfl) (by kernel_rfl) (fun _ _ _ h => h) (Or.inl ⟨by rfl, ?_⟩) ?_; rotate_left 1; focus (intro w; go_simp; try with_reducible rfl))
          (refine wpAny_take (i := 14) (v := ?_) rfl (by kernel_rfl) (by kernel_rfl) (by kernel_rfl) (fun _ _ _ h => h) (Or.inl ⟨by rfl, ?_⟩) ?_; rotate_left 1; focus (intro w; go_simp; try with_reducible rfl))
          (refine wpAny_ready (rs := [15]) (by kernel_rfl) (by simp) ?_; refine AllReady.cons rfl (fun K hK => ?_) AllReady.nil; go_simp; refine hK _ _ ?_; clear hK K)
          refine wpAny_done (by kernel_rfl) ?_ _
          go_wp2_with fail
          go_roundw
          case rel => exact ⟨k + 1, by omega, by go_num, Sched.step (W := wr.drewN nq.succ) Q hlt HN2.out, R.other hbn _ _, (grow_drew B _).setCell (p := ⟨b, k, none⟩) (by show w.heap.size ≤ b; omega) _⟩
          case measure => simp [intOf]; omega
        · go_simp
          refine hK _ _ ?_
          clear hK K
          (refine wpAny_ready (rs := [4]) (by kernel_rfl) (by simp) ?_; refine AllReady.cons rfl (fun K hK => ?_) AllReady.nil; go_simp; refine hK _ _ ?_; clear hK K)
          (refine wpAny_take (i := 6) (v := ?_) rfl (by kernel_rfl) (by kernel_rfl) (by kernel_rfl) (fun _ _ _ h => h) (Or.inl ⟨by rfl, ?_⟩) ?_; rotate_left 1; focus (intro w; go_simp; try with_reducible rfl))
          (refine wpAny_take (i := 11) (v := ?_) rfl (by kernel_rfl) (by kernel_rfl) (by kernel_rfl) (fun _ _ _ h => h) (Or.inl ⟨by rfl, ?_⟩) ?_; rotate_left 1; focus (intro w; go_simp; try with_reducible rfl))
          (refine wpAny_take (i := 13) (v := ?_) rfl (by kernel_rfl) (by kernel_rfl) (by kernel_rfl) (fun _ _ _ h => h) (Or.inl ⟨by rfl, ?_⟩) ?_; rotate_left 1; focus (intro w; go_simp; try with_reducible rfl))
          (refine wpAny_take (i := 14) (v := ?_) rfl (by kernel_rfl) (by kernel_rfl) (by kernel_rfl) (fun _ _ _ h => h) (Or.inl ⟨by rfl, ?_⟩) ?_; rotate_left 1; focus (intro w; go_simp; try with_reducible rfl))
          (refine wpAny_ready (rs := [15]) (by kernel_rfl) (by simp) ?_; refine AllReady.cons rfl (fun K hK => ?_) AllReady.nil; go_simp; refine hK _ _ ?_; clear hK K)
          refine wpAny_done (by kernel_rfl) ?_ _
          go_wp2_with fail
          go_roundw
          case rel => exact ⟨k + 1, by omega, by go_num, Sched.step (W := wr.drewN nq.succ) Q hlt HN2.out, R.other hbn _ _, (grow_drew B _).setCell (p := ⟨b, k, none⟩) (by show w.heap.size ≤ b; omega) _⟩
          case measure => simp [intOf]; omega
    · have hk64 : k = 64 := by omega
      have hlt' : ¬ (k : Int) < 64 := by omega
      have Q9 : WB wr b 69 (wsV m 64) := by
        have := Q
        unfold Sched at this
        rw [hk64] at this
        simpa using this
      have hL := wsV_length m 64
      have HU := Lib.hid Tryd.underlying69
      have HI := Lib.hid (size64 hL)
      have HL := Lib.hid (show (w32 zeros64).toArray.size = (w32 (wsV m 64)).toArray.size by simp [w32, zeros64, hL])
      have HO := Lib.hid (w32_one (wsV m 64))
      have HM2 := Lib.hid (show wsV (blockM s) 64 = wsV m 64 by rw [HM.out])
      generalize wsV m 64 = ws at *
      clear Q hL
      go_wp2_with (first
        | refine wpList_load_row rfl 69 (.tmp 3) rfl b 69 (w32 ws).toArray _ rfl Q9 HU.out rfl HI.out ?_
        | (refine wpList_store_row rfl 69 (.tmp 2) (.tmp 63) rfl w.heap.size 69 (w32 zeros64).toArray (w32 ws).toArray rfl rfl R HI.out HL.out HO.out ?_; intro w3 hw3))
      have R3 := WB.row R hw3.out
      have B3 := below_setRow' B (Nat.le_refl _) hw3.out
      refine bodyPost_ret (results_row1 rfl _ _ w.heap.size 69 (w32 ws).toArray _ rfl R3 HU.out rfl HI.out) rfl ?_
      exact ⟨by rw [HM2.out], B3⟩
end Go.Proofs.YteecemjbkpkpaaaDoor
