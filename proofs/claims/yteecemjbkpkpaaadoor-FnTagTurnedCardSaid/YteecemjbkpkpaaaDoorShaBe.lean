/- SHA-256: words of four bytes, the highest first: the reference's way. -/
import Derived.Test.YteecemjbkpkpaaaDoorShaRot
import Derived.Test.YteecemjbkpkpaaaDoorMga
import Derived.Test.YteecemjbkpkpaaaDoorTab
import Derived.BigQuiet
import Derived.Deep.QuietTactic
import Derived.Deep.RegionLaw
import Derived.OwnWalk
namespace Go.Proofs.YteecemjbkpkpaaaDoor
open Go.ChangeShapes Go.WideShapes Go.ChangeAt Go.RowKit
set_option linter.unusedVariables false
set_option linter.unusedSimpArgs false

theorem be_join (a b c d : Nat) (ha : a < 256) (hb : b < 256) (hc : c < 256) (hd : d < 256) :
    bits .or .u32 (bits .or .u32 (bits .or .u32 ((a : Int) * 16777216) ((b : Int) * 65536)) ((c : Int) * 256)) (d : Int) = (((a : Int) * 256 + b) * 256 + c) * 256 + d := by
  rw [show (a : Int) * 16777216 = ((a * 16777216 : Nat) : Int) by omega, show (b : Int) * 65536 = ((b * 65536 : Nat) : Int) by omega, show (c : Int) * 256 = ((c * 256 : Nat) : Int) by omega,
    u32_or_nat _ _ (by omega) (by omega), nat_join24 (a * 16777216) (b * 65536) (by omega) (by omega), u32_or_nat _ _ (by omega) (by omega), nat_join16 (a * 16777216 + b * 65536) (c * 256) (by omega) (by omega),
    u32_or_nat _ _ (by omega) (by omega), nat_join8 (a * 16777216 + b * 65536 + c * 256) d (by omega) (by omega)]
  omega
theorem extract4 (s : ByteArray) (j : Nat) (h : j + 4 ≤ s.size) : (s.extract j (j + 4)).data.toList = [s[j], s[j + 1], s[j + 2], s[j + 3]] := by
  have hl : s.data.toList.length = s.size := by rw [Array.length_toList]; rfl
  have e : (s.extract j (j + 4)).data.toList = (s.data.toList.drop j).take 4 := by
    rw [ByteArray.data_extract, Array.toList_extract]
    simp [List.extract]
  rw [e]
  have h0 : j < s.data.toList.length := by omega
  have h1 : j + 1 < s.data.toList.length := by omega
  have h2 : j + 2 < s.data.toList.length := by omega
  have h3 : j + 3 < s.data.toList.length := by omega
  rw [List.drop_eq_getElem_cons h0, List.take_succ_cons, List.drop_eq_getElem_cons h1, List.take_succ_cons, List.drop_eq_getElem_cons h2, List.take_succ_cons, List.drop_eq_getElem_cons h3, List.take_succ_cons, List.take_zero]
  rfl
theorem getB_extract4 (s : ByteArray) (j : Nat) (h : j + 4 ≤ s.size) : getB (s.extract j (j + 4)) = (((s[j].toNat : Int) * 256 + s[j + 1].toNat) * 256 + s[j + 2].toNat) * 256 + s[j + 3].toNat := by
  unfold getB getN
  rw [extract4 s j h]
  simp
/-- The words of a text. -/
def wordsB (s : ByteArray) (n : Nat) : List Int := (List.range n).map fun i => getB (s.extract (4 * i) (4 * i + 4))
theorem wordsB_succ (s : ByteArray) (n : Nat) : wordsB s (n + 1) = wordsB s n ++ [getB (s.extract (4 * n) (4 * n + 4))] := by simp [wordsB, List.range_succ]
theorem wordsB_length (s : ByteArray) (n : Nat) : (wordsB s n).length = n := by simp [wordsB]
theorem info32 : (Tryd.prog.info? 65).map (fun i => (i.zero, i.size, i.bytes)) = some (some (.int .u32 0), 1, 4) := by kernel_rfl
theorem cell_one_newS (w : World) (v : Value) (t : TypeId) : ∀ j u, [v][j]? = some u → (w.alloc (.cells #[v] t)).drew.cell? ((⟨w.heap.size, 0, none⟩ : Addr).add j) = some u := by
  intro j z hz
  match j, hz with
  | 0, hz => simp at hz; subst hz; simp [Addr.add]
theorem step_append_32 {P : Program} {ops : Array Oper} {o : Oper} {a : Act} {w : World} {K : Act → World → Prop} {Q : Exit → Act → World → Prop} {E : Prop} (hgd : o.guard = none) (s x : Operand) (t : TypeId)
    (ho : o.op = .call { callee := .builtin .append, args := #[s, x], argTypes := #[t, t] })
    (base : Nat) (e : TypeId) (i : TypeInfo) (z : Value) (size bytes : Nat) (ht : P.underlying t = some (.slice e)) (hi : P.info? e = some i) (hz : i.zero = some z)
    (hsize : i.size = size) (hby : i.bytes = bytes) (hzs : z.cells.size = size) (hsz : 0 < size)
    (v : Value) (n : Nat) (xs : List Value) (hs : a.eval s = v) (hown : w.ownsRow base e size v n xs)
    (ad : Addr) (m c : Nat) (news : List Value) (hx : a.eval x = .slice (some ad) m c) (hl : news.length = m * size) (hnews : ∀ j u, news[j]? = some u → w.cell? (ad.add j) = some u) (h1 : ∀ u ∈ news, u.oneCell' = true)
    (h63 : n + m ≤ maxLen) (hbytes : (n + m) * bytes ≤ 140737488355328) (hbase : base ≤ w.heap.size)
    (h : ∀ v' w', w'.ownsRow base e size v' (n + m) (xs ++ news) → w.grownBy w' v.ownBlock → (v' = .slice none 0 0 ↔ v = .slice none 0 0 ∧ m = 0) → K (a.put o.dst v') w') :
    if Region.wanted o (yielded ops a.tmps) = true then Oper.wp P o a w K Q else E := by
  have hw : Region.wanted o (yielded ops a.tmps) = true := by simp [Region.wanted, hgd]
  rw [if_pos hw]
  exact wp_append_own w s x t ho base e i z size bytes ht hi hz hsize hby hzs hsz v n xs hs hown ad m c news hx hl hnews h1 h63 hbytes hbase h
set_option maxRecDepth 100000 in
set_option maxHeartbeats 2000000 in
theorem be_c (s : ByteArray) (n : Nat) (hn : n ≤ 16) (hs : s.size = 4 * n) (w : World) :
    Calls Tryd.prog 70 #[.string s] w fun e w' => ∃ o, e = .returned o ∧ w'.ownsRow w.heap.size 65 1 o n ((wordsB s n).map (Value.int .u32)) ∧ Below w.heap.size w w' := by
  obtain ⟨i0, hi, hz0, hz1, hz2⟩ := info_partsT info32
  have HI0 := Lib.hid hi
  have HZ0 := Lib.hid hz0
  have HZ1 := Lib.hid hz1
  have HZ2 := Lib.hid hz2
  clear hi hz0 hz1 hz2
  have HS := Lib.hid hs
  have hss : s.size ≤ 64 := by omega
  go_enter Tryd.func70, Tryd.ntmps70
  go_wp2_with fail
  have hrow0 := World.ownsRow_made (base := w.heap.size) (e := 65) (size := 1) w #[] 0 (Nat.le_refl _) (by simp [maxLen]) rfl
  go_loopw [3, 4] (fun o i wr => ∃ (k j : Nat), k ≤ n ∧ i = .int .i64 (j : Int) ∧ Hid (j = 4 * k) ∧ wr.ownsRow w.heap.size 65 1 o k ((wordsB s k).map (Value.int .u32)) ∧ Below w.heap.size w wr) (fun _ i _ => s.size + 4 - (intOf i).toNat)
  case atStart => exact ⟨0, 0, Nat.zero_le _, rfl, Lib.hid rfl, hrow0, below_new _ _⟩
  case round =>
    clear hrow0 hs
    obtain ⟨k, j, hk, rfl, HJ, hrow, hb⟩ := hrel
    have hsz := hb.size
    by_cases hlt : k < n
    · have hj : j + 4 ≤ s.size := by rw [HS.out, HJ.out]; omega
      have b0 := s[j].toNat_lt
      have b1 := s[j + 1].toNat_lt
      have b2 := s[j + 2].toNat_lt
      have b3 := s[j + 3].toNat_lt
      have hN : wordsB s (k + 1) = wordsB s k ++ [bits .or .u32 (bits .or .u32 (bits .or .u32 ((s[j].toNat : Int) * 16777216) ((s[j + 1].toNat : Int) * 65536)) ((s[j + 2].toNat : Int) * 256)) (s[j + 3].toNat : Int)] := by
        rw [wordsB_succ, be_join _ _ _ _ (by omega) (by omega) (by omega) (by omega), ← getB_extract4 s j hj, HJ.out]
      obtain ⟨x0, hx0⟩ : ∃ x : Int, (s[j].toNat : Int) = x := ⟨_, rfl⟩
      obtain ⟨x1, hx1⟩ : ∃ x : Int, (s[j + 1].toNat : Int) = x := ⟨_, rfl⟩
      obtain ⟨x2, hx2⟩ : ∃ x : Int, (s[j + 2].toNat : Int) = x := ⟨_, rfl⟩
      obtain ⟨x3, hx3⟩ : ∃ x : Int, (s[j + 3].toNat : Int) = x := ⟨_, rfl⟩
      obtain ⟨V, hV⟩ : ∃ V, bits .or .u32 (bits .or .u32 (bits .or .u32 (x0 * 16777216) (x1 * 65536)) (x2 * 256)) x3 = V := ⟨_, rfl⟩
      rw [hx0, hx1, hx2, hx3, hV] at hN
      have HN := Lib.hid hN
      clear hN
      have e0 : (j : Int) + 1 < s.size := by omega
      have e1 : (j : Int) + 2 < s.size := by omega
      have e2 : (j : Int) + 3 < s.size := by omega
      have e3 : (j : Int) < s.size := by omega
      have q1 : (0 : Int) ≤ (j : Int) + 1 := by omega
      have q2 : (0 : Int) ≤ (j : Int) + 2 := by omega
      have q3 : (0 : Int) ≤ (j : Int) + 3 := by omega
      have t2 : ((j : Int) + 2).toNat = j + 2 := by omega
      have t3 : ((j : Int) + 3).toNat = j + 3 := by omega
      have i1 : IntKind.i64.wrap ((j : Int) + 1) = (j : Int) + 1 := IntWalk.i64_in _ (by omega)
      have i2 : IntKind.i64.wrap ((j : Int) + 2) = (j : Int) + 2 := IntWalk.i64_in _ (by omega)
      have i3 : IntKind.i64.wrap ((j : Int) + 3) = (j : Int) + 3 := IntWalk.i64_in _ (by omega)
      have c0 : IntKind.u32.wrap x0 = x0 := IntWalk.u32_in _ (by omega)
      have c1 : IntKind.u32.wrap x1 = x1 := IntWalk.u32_in _ (by omega)
      have c2 : IntKind.u32.wrap x2 = x2 := IntWalk.u32_in _ (by omega)
      have c3 : IntKind.u32.wrap x3 = x3 := IntWalk.u32_in _ (by omega)
      have d0 : IntKind.u32.wrap (x0 * 16777216) = x0 * 16777216 := IntWalk.u32_in _ (by omega)
      have d1 : IntKind.u32.wrap (x1 * 65536) = x1 * 65536 := IntWalk.u32_in _ (by omega)
      have d2 : IntKind.u32.wrap (x2 * 256) = x2 * 256 := IntWalk.u32_in _ (by omega)
      have O := Lib.hid ((hrow.alloc (.cells #[.int .u32 V] 65)).drew)
      have BY : Below w.heap.size w (wr.alloc (.cells #[.int .u32 V] 65)).drew := below_drewR (hb.alloc hsz _)
      have N9 := Lib.hid (cell_one_newS wr (.int .u32 V) 65)
      have hs4 : (4 * n : Nat) = s.size := HS.out.symm
      go_wp2_with fail
      refine wp_region_any (by kernel_rfl) ?_
      try (change wpAny _ _ _ _ _ _ _ (World.drew _))
      (refine wpAny_take (i := 0) (v := ?_) rfl (by kernel_rfl) (by kernel_rfl) (by kernel_rfl) (fun _ _ _ h => h) (Or.inl ⟨by rfl, ?_⟩) ?_; rotate_left 1; focus (intro w; go_simp; try with_reducible rfl))
      (refine wpAny_take (i := 1) (v := ?_) rfl (by kernel_rfl) (by kernel_rfl) (by kernel_rfl) (fun _ _ _ h => h) (Or.inl ⟨by rfl, ?_⟩) ?_; rotate_left 1; focus (intro w; go_simp; try with_reducible rfl))
      (refine wpAny_take (i := 2) (v := ?_) rfl (by kernel_rfl) (by kernel_rfl) (by kernel_rfl) (fun _ _ _ h => h) (Or.inl ⟨by rfl, ?_⟩) ?_; rotate_left 1; focus (intro w; go_simp; try with_reducible rfl))
      (refine wpAny_take (i := 3) (v := ?_) rfl (by kernel_rfl) (by kernel_rfl) (by kernel_rfl) (fun _ _ _ h => h) (Or.inl ⟨by rfl, ?_⟩) ?_; rotate_left 1; focus (intro w; go_simp; try with_reducible rfl))
      (refine wpAny_take (i := 4) (v := ?_) rfl (by kernel_rfl) (by kernel_rfl) (by kernel_rfl) (fun _ _ _ h => h) (Or.inl ⟨by rfl, ?_⟩) ?_; rotate_left 1; focus (intro w; go_simp; try with_reducible rfl))
      (refine wpAny_take (i := 5) (v := ?_) rfl (by kernel_rfl) (by kernel_rfl) (by kernel_rfl) (fun _ _ _ h => h) (Or.inl ⟨by rfl, ?_⟩) ?_; rotate_left 1; focus (intro w; go_simp; try with_reducible rfl))
      (refine wpAny_take (i := 6) (v := ?_) rfl (by kernel_rfl) (by kernel_rfl) (by kernel_rfl) (fun _ _ _ h => h) (Or.inl ⟨by rfl, ?_⟩) ?_; rotate_left 1; focus (intro w; go_simp; try with_reducible rfl))
      (refine wpAny_take (i := 7) (v := ?_) rfl (by kernel_rfl) (by kernel_rfl) (by kernel_rfl) (fun _ _ _ h => h) (Or.inl ⟨by rfl, ?_⟩) ?_; rotate_left 1; focus (intro w; go_simp; try with_reducible rfl))
      (refine wpAny_take (i := 8) (v := ?_) rfl (by kernel_rfl) (by kernel_rfl) (by kernel_rfl) (fun _ _ _ h => h) (Or.inl ⟨by rfl, ?_⟩) ?_; rotate_left 1; focus (intro w; go_simp; try with_reducible rfl))
      (refine wpAny_take (i := 9) (v := ?_) rfl (by kernel_rfl) (by kernel_rfl) (by kernel_rfl) (fun _ _ _ h => h) (Or.inl ⟨by rfl, ?_⟩) ?_; rotate_left 1; focus (intro w; go_simp; try with_reducible rfl))
      (refine wpAny_take (i := 10) (v := ?_) rfl (by kernel_rfl) (by kernel_rfl) (by kernel_rfl) (fun _ _ _ h => h) (Or.inl ⟨by rfl, ?_⟩) ?_; rotate_left 1; focus (intro w; go_simp; try with_reducible rfl))
      (refine wpAny_take (i := 11) (v := ?_) rfl (by kernel_rfl) (by kernel_rfl) (by kernel_rfl) (fun _ _ _ h => h) (Or.inl ⟨by rfl, ?_⟩) ?_; rotate_left 1; focus (intro w; go_simp; try with_reducible rfl))
      (refine wpAny_take (i := 12) (v := ?_) rfl (by kernel_rfl) (by kernel_rfl) (by kernel_rfl) (fun _ _ _ h => h) (Or.inl ⟨by rfl, ?_⟩) ?_; rotate_left 1; focus (intro w; go_simp; try with_reducible rfl))
      (refine wpAny_take (i := 13) (v := ?_) rfl (by kernel_rfl) (by kernel_rfl) (by kernel_rfl) (fun _ _ _ h => h) (Or.inl ⟨by rfl, ?_⟩) ?_; rotate_left 1; focus (intro w; go_simp; try with_reducible rfl))
      (refine wpAny_take (i := 14) (v := ?_) rfl (by kernel_rfl) (by kernel_rfl) (by kernel_rfl) (fun _ _ _ h => h) (Or.inl ⟨by rfl, ?_⟩) ?_; rotate_left 1; focus (intro w; go_simp; try with_reducible rfl))
      (refine wpAny_take (i := 15) (v := ?_) rfl (by kernel_rfl) (by kernel_rfl) (by kernel_rfl) (fun _ _ _ h => h) (Or.inl ⟨by rfl, ?_⟩) ?_; rotate_left 1; focus (intro w; go_simp; try with_reducible rfl))
      (refine wpAny_take (i := 16) (v := ?_) rfl (by kernel_rfl) (by kernel_rfl) (by kernel_rfl) (fun _ _ _ h => h) (Or.inl ⟨by rfl, ?_⟩) ?_; rotate_left 1; focus (intro w; go_simp; try with_reducible rfl))
      (refine wpAny_take (i := 17) (v := ?_) rfl (by kernel_rfl) (by kernel_rfl) (by kernel_rfl) (fun _ _ _ h => h) (Or.inl ⟨by rfl, ?_⟩) ?_; rotate_left 1; focus (intro w; go_simp; try with_reducible rfl))
      (refine wpAny_take (i := 18) (v := ?_) rfl (by kernel_rfl) (by kernel_rfl) (by kernel_rfl) (fun _ _ _ h => h) (Or.inl ⟨by rfl, ?_⟩) ?_; rotate_left 1; focus (intro w; go_simp; try with_reducible rfl))
      (refine wpAny_take (i := 19) (v := ?_) rfl (by kernel_rfl) (by kernel_rfl) (by kernel_rfl) (fun _ _ _ h => h) (Or.inl ⟨by rfl, ?_⟩) ?_; rotate_left 1; focus (intro w; go_simp; try with_reducible rfl))
      (refine wpAny_take (i := 20) (v := ?_) rfl (by kernel_rfl) (by kernel_rfl) (by kernel_rfl) (fun _ _ _ h => h) (Or.inl ⟨by rfl, ?_⟩) ?_; rotate_left 1; focus (intro w; go_simp; try with_reducible rfl))
      (refine wpAny_take (i := 21) (v := ?_) rfl (by kernel_rfl) (by kernel_rfl) (by kernel_rfl) (fun _ _ _ h => h) (Or.inl ⟨by rfl, ?_⟩) ?_; rotate_left 1; focus (intro w; go_simp; try with_reducible rfl))
      (refine wpAny_take (i := 22) (v := ?_) rfl (by kernel_rfl) (by kernel_rfl) (by kernel_rfl) (fun _ _ _ h => h) (Or.inl ⟨by rfl, ?_⟩) ?_; rotate_left 1; focus (intro w; go_simp; try with_reducible rfl))
      (refine wpAny_take (i := 23) (v := ?_) rfl (by kernel_rfl) (by kernel_rfl) (by kernel_rfl) (fun _ _ _ h => h) (Or.inl ⟨by rfl, ?_⟩) ?_; rotate_left 1; focus (intro w; go_simp; try with_reducible rfl))
      (refine wpAny_take (i := 24) (v := ?_) rfl (by kernel_rfl) (by kernel_rfl) (by kernel_rfl) (fun _ _ _ h => h) (Or.inl ⟨by rfl, ?_⟩) ?_; rotate_left 1; focus (intro w; go_simp; try with_reducible rfl))
      (refine wpAny_take (i := 25) (v := ?_) rfl (by kernel_rfl) (by kernel_rfl) (by kernel_rfl) (fun _ _ _ h => h) (Or.inl ⟨by rfl, ?_⟩) ?_; rotate_left 1; focus (intro w; go_simp; try with_reducible rfl))
      refine wpAny_ready (rs := [26]) (by kernel_rfl) (by simp) ?_
      refine AllReady.cons rfl (fun K hK => ?_) AllReady.nil
      go_simp
      refine hK _ _ ?_
      clear hK K
      refine wpAny_ready (rs := [27]) (by kernel_rfl) (by simp) ?_
      refine AllReady.cons rfl (fun K hK => ?_) AllReady.nil
      refine step_append_32 rfl _ _ 82 rfl w.heap.size 65 i0 (.int .u32 0) 1 4 Tryd.underlying82 HI0.out HZ0.out HZ1.out HZ2.out rfl (by decide) u3 k ((wordsB s k).map (Value.int .u32)) (by simp [Act.eval, Act.put]) O.out ⟨wr.heap.size, 0, none⟩ 1 1 [.int .u32 V] (by simp [Act.eval, Act.put]) rfl N9.out (by simp [Value.oneCell']) (by unfold maxLen; omega) (by omega) BY.size ?_
      intro v9 w9 hown9 hgrow9 _
      refine hK _ _ ?_
      clear hK K
      (refine wpAny_take (i := 28) (v := ?_) rfl (by kernel_rfl) (by kernel_rfl) (by kernel_rfl) (fun _ _ _ h => h) (Or.inl ⟨by rfl, ?_⟩) ?_; rotate_left 1; focus (intro w; go_simp; try with_reducible rfl))
      refine wpAny_done (by kernel_rfl) ?_ _
      · have b9 : Below w.heap.size w w9 := BY.grown hgrow9 BY.size (fun g hg => (O.out.lt g hg).1)
        clear O N9 BY hrow hV hx0 hx1 hx2 hx3 t2 t3 i1 i2 i3 c0 c1 c2 c3 d0 d1 d2 e0 e1 e2 q1 q2 q3
        go_wp2_with fail
        go_roundw
        case rel => exact ⟨k + 1, j + 4, by omega, by go_num, Lib.hid (by rw [HJ.out]; omega), by rw [HN.out, List.map_append]; exact hown9, b9⟩
        case measure => simp [intOf]; omega
    · have hkn : k = n := by omega
      have hj : ¬ ((j : Int) + 4 ≤ s.size) := by have := HS.out; have := HJ.out; omega
      have hj2 : decide ((j : Int) + 4 ≤ s.size) = false := decide_eq_false hj
      have hj3 : IntKind.i64.wrap ((j : Int) + 4) = (j : Int) + 4 := IntWalk.i64_in _ (by have := HJ.out; omega)
      have HR := Lib.hid (show wr.ownsRow w.heap.size 65 1 u3 n ((wordsB s n).map (Value.int .u32)) by rw [← hkn]; exact hrow)
      clear hkn hrow
      go_wp2_with fail
      go_returns
      exact ⟨_, rfl, HR.out, hb⟩
end Go.Proofs.YteecemjbkpkpaaaDoor
