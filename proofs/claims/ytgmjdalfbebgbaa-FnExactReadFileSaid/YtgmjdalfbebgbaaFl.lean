/- Files and ops in memory; the program's tests of names, room and files. -/
import Derived.Test.YtgmjdalfbebgbaaDkMath
import Derived.Test.YtgmjdalfbebgbaaGRow
import Derived.IntWalk
import Derived.Laws.Cover1
import Derived.Lib.Hide
namespace Go.Proofs.Ytgmjdalfbebgbaa
open Go.ChangeShapes Go.WideShapes Go.ChangeAt Go.RowKit
set_option linter.unusedVariables false
set_option linter.unusedSimpArgs false

def flC : Cells Fl := ⟨fun f => [.string f.name, .string f.data], 2, fun _ => rfl, fun a u h => by simp at h; rcases h with rfl | rfl <;> rfl, by decide⟩
def dpC : Cells Dp := ⟨fun o => [.int .i64 o.kind, .string o.name, .string o.to, .string o.data], 4, fun _ => rfl, fun a u h => by simp at h; rcases h with rfl | rfl | rfl | rfl <;> rfl, by decide⟩
theorem infoFl : (Try.prog.info? 84).map (fun i => (i.zero, i.size, i.bytes)) = some (some (.agg #[.string ⟨#[]⟩, .string ⟨#[]⟩]), 2, 32) := by kernel_rfl
theorem infoDp : (Try.prog.info? 40).map (fun i => (i.zero, i.size, i.bytes)) = some (some (.agg #[.int .i64 0, .string ⟨#[]⟩, .string ⟨#[]⟩, .string ⟨#[]⟩]), 4, 56) := by kernel_rfl
theorem blk_cell {W : World} {b k : Nat} {c : Array Value} {T : TypeId} {u : Value} (e : W.heap[b]? = some (.cells c T)) (h : c[k]? = some u) : W.cell? ⟨b, k, none⟩ = some u := by
  unfold World.cell?
  rw [e]
  exact h
theorem blk_thaw {W : World} {b : Nat} {c : Array Value} {T : TypeId} (e : W.heap[b]? = some (.cells c T)) (k : Nat) : W.frozen? ⟨b, k, none⟩ = false := by simp [World.frozen?, e]
theorem GAt.fl {B : Nat} {w : World} {x : Option Addr} {l : List Fl} {i : Nat} {v : Fl} (h : GAt flC B w x l) (hi : l[i]? = some v) : ∃ b off, x = some ⟨b, off, none⟩ ∧ b < B ∧ w.cell? ⟨b, off + i * 2, none⟩ = some (.string v.name) ∧ w.cell? ⟨b, off + i * 2 + 1, none⟩ = some (.string v.data) := by
  obtain ⟨b, off, e, hlt, hc⟩ := h.at_ hi
  exact ⟨b, off, e, hlt, hc 0 _ rfl, hc 1 _ rfl⟩
theorem GAt.dp {B : Nat} {w : World} {x : Option Addr} {l : List Dp} {i : Nat} {v : Dp} (h : GAt dpC B w x l) (hi : l[i]? = some v) : ∃ b off, x = some ⟨b, off, none⟩ ∧ b < B ∧ w.cell? ⟨b, off + i * 4, none⟩ = some (.int .i64 v.kind) ∧ w.cell? ⟨b, off + i * 4 + 1, none⟩ = some (.string v.name) ∧ w.cell? ⟨b, off + i * 4 + 2, none⟩ = some (.string v.to) ∧ w.cell? ⟨b, off + i * 4 + 3, none⟩ = some (.string v.data) := by
  obtain ⟨b, off, e, hlt, hc⟩ := h.at_ hi
  exact ⟨b, off, e, hlt, hc 0 _ rfl, hc 1 _ rfl, hc 2 _ rfl, hc 3 _ rfl⟩
theorem two_new (w : World) (x0 x1 : Value) (t : TypeId) : (w.alloc (.cells #[x0, x1] t)).cell? ⟨w.heap.size, 0, none⟩ = some x0 ∧ (w.alloc (.cells #[x0, x1] t)).cell? ⟨w.heap.size, 1, none⟩ = some x1 := ⟨blk_cell (blk_new w _) rfl, blk_cell (blk_new w _) rfl⟩
set_option maxHeartbeats 1000000 in
theorem nameOk_c (s : ByteArray) (w : World) : Calls Try.prog 83 #[.string s] w fun e w' => e = .returned (.bool (nmOk s)) ∧ w = w' := by
  obtain ⟨n, hn⟩ : ∃ n, s.size = n := ⟨_, rfl⟩
  unfold nmOk
  rw [hn]
  go_enter Try.func83, Try.ntmps83
  by_cases h1 : 1 ≤ n
  · have d1 : decide ((1 : Int) ≤ (n : Int)) = true := decide_eq_true (by omega)
    have g1 : (1 : Int) ≤ (n : Int) := by omega
    by_cases h2 : n ≤ 100
    · have d2 : decide ((n : Int) ≤ 100) = true := decide_eq_true (by omega)
      have g2 : (n : Int) ≤ 100 := by omega
      go_wp2_with fail
      go_returns
      exact ⟨by simp [h1, h2], rfl⟩
    · have d2 : decide ((n : Int) ≤ 100) = false := decide_eq_false (by omega)
      have g2 : ¬ (n : Int) ≤ 100 := by omega
      go_wp2_with fail
      go_returns
      exact ⟨by simp [h1, h2], rfl⟩
  · have d1 : decide ((1 : Int) ≤ (n : Int)) = false := decide_eq_false (by omega)
    have g1 : ¬ (1 : Int) ≤ (n : Int) := by omega
    go_wp2_with fail
    go_returns
    exact ⟨by simp [h1], rfl⟩
set_option maxHeartbeats 1000000 in
theorem isRoom_c (n m : Nat) (w : World) : Calls Try.prog 84 #[.int .i64 (n : Int), .int .i64 (m : Int)] w fun e w' => e = .returned (.bool (roomV n m)) ∧ w = w' := by
  unfold roomV
  go_enter Try.func84, Try.ntmps84
  by_cases h1 : n ≤ 60
  · have d1 : decide ((n : Int) ≤ 60) = true := decide_eq_true (by omega)
    have g1 : (n : Int) ≤ 60 := by omega
    by_cases h2 : m ≤ 200000
    · have d2 : decide ((m : Int) ≤ 200000) = true := decide_eq_true (by omega)
      have g2 : (m : Int) ≤ 200000 := by omega
      go_wp2_with fail
      go_returns
      exact ⟨by simp [h1, h2], rfl⟩
    · have d2 : decide ((m : Int) ≤ 200000) = false := decide_eq_false (by omega)
      have g2 : ¬ (m : Int) ≤ 200000 := by omega
      go_wp2_with fail
      go_returns
      exact ⟨by simp [h1, h2], rfl⟩
  · have d1 : decide ((n : Int) ≤ 60) = false := decide_eq_false (by omega)
    have g1 : ¬ (n : Int) ≤ 60 := by omega
    go_wp2_with fail
    go_returns
    exact ⟨by simp [h1], rfl⟩
/-- Files that are no longer than a machine can hold. -/
def SmallF (l : List Fl) : Prop := l.length ≤ 2097152 ∧ ∀ f ∈ l, f.data.size ≤ 1099511627776
theorem SmallF.bytes {l : List Fl} (h : SmallF l) (k : Nat) : bytesF (l.take k) ≤ 2305843009213693952 := by
  have h2 : ∀ m : List Fl, (∀ f ∈ m, f.data.size ≤ 1099511627776) → bytesF m ≤ m.length * 1099511627776 := by
    intro m hm
    induction m with
    | nil => simp [bytesF]
    | cons a m ih =>
      have := ih (fun f hf => hm f (by simp [hf]))
      have := hm a (by simp)
      rw [bytesF_cons, List.length_cons]
      omega
  have h3 := h2 (l.take k) (fun f hf => h.2 f (List.mem_of_mem_take hf))
  have h4 : (l.take k).length ≤ 2097152 := by have := h.1; rw [List.length_take]; omega
  have := Nat.mul_le_mul_right 1099511627776 h4
  omega
theorem leq_is (a b : List UInt8) : (Op.bytesLess a b || a == b) = !decide (b < a) := by
  rw [less_is]
  rcases kb_tri a b with h | h | h
  · have := kb_asymm h
    simp [h, this]
  · subst h
    simp [kb_irrefl]
  · have h1 := kb_asymm h
    have h2 := kb_ne h
    simp [h, h1, Ne.symm h2]
theorem prevK_succ {l : List Fl} {k : Nat} {f : Fl} (h : l[k]? = some f) : prevK l (k + 1) = f.key := by
  unfold prevK
  rw [if_neg (by omega), Nat.add_sub_cancel, h]
set_option maxHeartbeats 2000000 in
theorem filesOk_c (l : List Fl) (n : Nat) (hn : Hid (n = l.length)) (hs : SmallF l) (x : Option Addr) (cap : Nat) (w : World) (h : GAt flC w.heap.size w x l) :
    Calls Try.prog 47 #[.slice x n cap] w fun e w' => e = .returned (.bool (filesOk l)) ∧ Below w.heap.size w w' := by
  have hn2 : n ≤ 2097152 := by rw [hn.out]; exact hs.1
  have HS := Lib.hid hs
  clear hs
  go_enter Try.func47, Try.ntmps47
  go_wp2_with fail
  go_loopw [3, 4, 9] (fun la by_ i wr => ∃ (k : Nat) (s : ByteArray), k ≤ n ∧ i = .int .i64 k ∧ la = .string s ∧ by_ = .int .i64 (bytesF (l.take k) : Nat) ∧ Hid (s.toList = prevK l k) ∧ Hid (okFTo l k = true) ∧ Below w.heap.size w wr) (fun _ _ i _ => n - (RowKit.intOf i).toNat)
  case atStart => exact ⟨0, ⟨#[]⟩, Nat.zero_le _, rfl, rfl, rfl, Lib.hid (by rw [ByteArray.toList_eq]; rfl), Lib.hid rfl, Below.refl _ _⟩
  case round =>
    obtain ⟨k, s, hk, rfl, rfl, rfl, HP, HO, hb⟩ := hrel
    by_cases hlt : k < n
    · obtain ⟨f, hf⟩ := getG (l := l) (k := k) (by rw [← hn.out]; exact hlt)
      obtain ⟨b, off, rfl, hbB, d0, d1⟩ := (h.next hb).fl hf
      have hkn : (k : Int) < (n : Int) := by omega
      have HF := Lib.hid hf
      have HPS := Lib.hid (prevK_succ hf)
      have HB : Hid (bytesF (l.take (k + 1)) = bytesF (l.take k) + f.data.size) := Lib.hid (by rw [take_nextG hf, bytesF_append, bytesF_cons]; simp [bytesF])
      have b1 := HS.out.bytes k
      have b2 := HS.out.bytes (k + 1)
      rw [HB.out] at b2
      have hw1 : IntKind.i64.wrap ((k : Int) + 1) = (k : Int) + 1 := IntWalk.i64_in _ (by omega)
      obtain ⟨B, hB⟩ : ∃ B, bytesF (l.take k) = B := ⟨_, rfl⟩
      rw [hB] at b1 b2 HB
      rw [hB]
      have hw2 : IntKind.i64.wrap ((B : Int) + (f.data.size : Int)) = (B : Int) + (f.data.size : Int) := IntWalk.i64_in _ (by omega)
      obtain ⟨e0, e1⟩ := two_new wr (.string f.name) (.string f.data) 84
      have B1 := hb.alloc hb.size (.cells #[.string f.name, .string f.data] 84)
      have HN := Lib.hid (fun W => nameOk_c f.name W)
      clear hf hB
      cases hnm : nmOk f.name with
      | false =>
        have HR : Hid (filesOk l = false) := Lib.hid (by
          unfold filesOk
          rw [okFTo_bad (k := k + 1) (by rw [← hn.out]; exact hlt) (by rw [okFTo_succ HF.out]; unfold okF; rw [hnm]; simp), Bool.false_and])
        rw [hnm] at HN
        clear hnm
        go_wp2_with (go_at_call 83; refine (HN.out _).mono ?_; rintro e w1 ⟨rfl, rfl⟩)
        go_returns
        exact ⟨by rw [HR.out]; rfl, B1⟩
      | true =>
        rw [hnm] at HN
        cases hd : decide (prevK l k < f.key) with
        | false =>
          have hle : (Op.bytesLess f.name.toList s.toList || f.name.toList == s.toList) = true := by
            rw [leq_is, HP.out]
            show (!decide (prevK l k < f.key)) = true
            rw [hd]; rfl
          obtain ⟨q1, hq1⟩ : ∃ q, Op.bytesLess f.name.toList s.toList = q := ⟨_, rfl⟩
          obtain ⟨q2, hq2⟩ : ∃ q, (f.name.toList == s.toList) = q := ⟨_, rfl⟩
          rw [hq1, hq2] at hle
          have HR : Hid (filesOk l = false) := Lib.hid (by
            unfold filesOk
            rw [okFTo_bad (k := k + 1) (by rw [← hn.out]; exact hlt) (by rw [okFTo_succ HF.out]; unfold okF; rw [hd]; simp), Bool.false_and])
          clear hnm hd
          go_wp2_with (go_at_call 83; refine (HN.out _).mono ?_; rintro e w1 ⟨rfl, rfl⟩)
          go_returns
          exact ⟨by rw [HR.out]; rfl, B1⟩
        | true =>
          have hle : (Op.bytesLess f.name.toList s.toList || f.name.toList == s.toList) = false := by
            rw [leq_is, HP.out]
            show (!decide (prevK l k < f.key)) = false
            rw [hd]; rfl
          obtain ⟨hq1, hq2⟩ := Bool.or_eq_false_iff.1 hle
          clear hle
          have HO2 : Hid (okFTo l (k + 1) = true) := Lib.hid (by rw [okFTo_succ HF.out, HO.out]; unfold okF; rw [hnm, hd]; rfl)
          clear hnm hd
          go_wp2_with (go_at_call 83; refine (HN.out _).mono ?_; rintro e w1 ⟨rfl, rfl⟩)
          go_roundw
          case rel => exact ⟨k + 1, f.name, by omega, by go_num, rfl, by rw [HB.out]; rfl, Lib.hid HPS.out.symm, HO2, B1⟩
          case measure => simp [RowKit.intOf]; omega
    · have e : k = n := by omega
      subst e
      have HE : Hid (filesOk l = roomV k (bytesF (l.take k))) := Lib.hid (by
        unfold filesOk
        rw [← hn.out, HO.out, hn.out, List.take_length]; rfl)
      have HI := Lib.hid (fun W => isRoom_c k (bytesF (l.take k)) W)
      obtain ⟨B, hB⟩ : ∃ B, bytesF (l.take k) = B := ⟨_, rfl⟩
      rw [hB] at HI HE
      rw [hB]
      clear hB hlt
      go_wp2_with (go_at_call 84; refine (HI.out _).mono ?_; rintro e w1 ⟨rfl, rfl⟩)
      go_returns
      exact ⟨by rw [HE.out]; rfl, hb⟩
end Go.Proofs.Ytgmjdalfbebgbaa
