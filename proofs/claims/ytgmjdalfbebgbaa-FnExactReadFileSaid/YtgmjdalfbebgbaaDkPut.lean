/- The reference's putting in and cutting out of files. -/
import Derived.Test.YtgmjdalfbebgbaaDkSm
namespace Go.Proofs.Ytgmjdalfbebgbaa
open Go.ChangeShapes Go.WideShapes Go.ChangeAt Go.RowKit
set_option linter.unusedVariables false
set_option linter.unusedSimpArgs false
set_option maxRecDepth 100000

def OwnF (W : World) (l : List Fl) : Ending → World → Prop := fun e w' => ∃ (x : Option Addr) (cap : Nat), e = .returned (.slice x l.length cap) ∧ GRow flC 84 W.heap.size w' x cap l ∧ Below W.heap.size W w'
theorem cut_next {l : List Fl} {k : Nat} {f : Fl} (key : List UInt8) (h : l[k]? = some f) : cutF (l.take (k + 1)) key = if (f.key == key) = true then cutF (l.take k) key else cutF (l.take k) key ++ [f] := by
  unfold cutF
  rw [take_nextG h, List.filter_append]
  cases hq : (f.key == key) with
  | true => simp [hq]
  | false => simp [hq]
/-- What is put together so far; whether the new one is in. -/
def putTo (l : List Fl) (c : Fl) : Nat → List Fl × Bool
  | 0 => ([], false)
  | k + 1 => match l[k]? with
    | none => putTo l c k
    | some f =>
      let p := if ((putTo l c k).2 || decide (f.key < c.key)) = true then putTo l c k else ((putTo l c k).1 ++ [c], true)
      (if (f.key == c.key) = true then p.1 else p.1 ++ [f], p.2)
def putEnd (l : List Fl) (c : Fl) (n : Nat) : List Fl := if (putTo l c n).2 = true then (putTo l c n).1 else (putTo l c n).1 ++ [c]
theorem low_all {m : List Fl} {c : Fl} (h : ∀ f ∈ m, f.key < c.key) : m.filter (fun a => decide (a.key < c.key)) = m := List.filter_eq_self.2 fun a ha => decide_eq_true (h a ha)
theorem low_none {m : List Fl} {c : Fl} (h : ∀ f ∈ m, f.key < c.key) : m.filter (fun a => decide (c.key < a.key)) = [] := List.filter_eq_nil_iff.2 fun a ha => by
  rw [decide_eq_false (kb_asymm (h a ha))]
  exact Bool.false_ne_true
theorem putTo_is {l : List Fl} (h : RiseF l) (c : Fl) (k : Nat) (hk : k ≤ l.length) :
    ((putTo l c k).2 = false ∧ (putTo l c k).1 = l.take k ∧ ∀ f ∈ l.take k, f.key < c.key) ∨
    ((putTo l c k).2 = true ∧ (putTo l c k).1 = putF (l.take k) c ∧ ∃ f ∈ l.take k, ¬ f.key < c.key) := by
  induction k with
  | zero => left; exact ⟨rfl, rfl, fun f hf => by cases hf⟩
  | succ k ih =>
    obtain ⟨f, hf⟩ := getG (l := l) (k := k) (by omega)
    have hrise : ∀ g ∈ l.take k, g.key < f.key := by
      have h2 : RiseF (l.take k ++ [f]) := by rw [← take_nextG hf]; exact List.Pairwise.sublist (List.take_sublist _ _) h
      exact fun g hg => (List.pairwise_append.1 h2).2.2 g hg f (by simp)
    rw [putTo, hf, take_nextG hf]
    rcases ih (by omega) with ⟨h1, h2, h3⟩ | ⟨h1, h2, h3⟩
    · simp only [h1, h2, Bool.false_or]
      rcases kb_tri f.key c.key with hlt | heq | hgt
      · left
        have hne : (f.key == c.key) = false := by rw [beq_eq_false_iff_ne]; exact kb_ne hlt
        rw [decide_eq_true hlt, if_pos rfl, hne, if_neg (by simp)]
        refine ⟨h1, ?_, fun g hg => ?_⟩
        · rw [h2]
        · rcases List.mem_append.1 hg with hg | hg
          · exact h3 g hg
          · rw [List.mem_singleton.1 hg]; exact hlt
      · right
        have hnl : ¬ f.key < c.key := by rw [heq]; exact kb_irrefl _
        rw [decide_eq_false hnl, if_neg (by simp), heq, beq_self_eq_true, if_pos rfl]
        refine ⟨rfl, ?_, f, by simp, hnl⟩
        unfold putF
        rw [List.filter_append, List.filter_append, low_all h3, low_none h3]
        simp [heq, kb_irrefl]
      · right
        have hnl : ¬ f.key < c.key := kb_asymm hgt
        have hne : (f.key == c.key) = false := by rw [beq_eq_false_iff_ne]; exact (kb_ne hgt).symm
        rw [decide_eq_false hnl, if_neg (by simp), hne, if_neg (by simp)]
        refine ⟨rfl, ?_, f, by simp, hnl⟩
        unfold putF
        rw [List.filter_append, List.filter_append, low_all h3, low_none h3]
        simp [hnl, hgt]
    · right
      obtain ⟨g, hg, hgl⟩ := h3
      have hgf := hrise g hg
      have hcf : c.key < f.key := by
        rcases kb_tri g.key c.key with h | h | h
        · exact absurd h hgl
        · rw [← h]; exact hgf
        · exact kb_trans h hgf
      have hnl : ¬ f.key < c.key := kb_asymm hcf
      have hne : (f.key == c.key) = false := by rw [beq_eq_false_iff_ne]; exact (kb_ne hcf).symm
      simp only [h1, Bool.true_or, if_true, hne]
      refine ⟨trivial, ?_, g, by simp [hg], hgl⟩
      rw [if_neg (by simp), h2]
      unfold putF
      rw [List.filter_append, List.filter_append]
      simp [hnl, hcf]
theorem putEnd_is {l : List Fl} (h : RiseF l) (c : Fl) : putEnd l c l.length = putF l c := by
  unfold putEnd
  rcases putTo_is h c l.length (Nat.le_refl _) with ⟨h1, h2, h3⟩ | ⟨h1, h2, h3⟩
  · rw [h1, if_neg (by simp), h2, List.take_length]
    rw [List.take_length] at h3
    unfold putF
    rw [low_all h3, low_none h3]
  · rw [h1, if_pos rfl, h2, List.take_length]
theorem putTo_len (l : List Fl) (c : Fl) (k : Nat) : (putTo l c k).1.length ≤ 2 * k := by
  induction k with
  | zero => simp [putTo]
  | succ k ih =>
    rw [putTo]
    split
    · omega
    · simp only
      split
      · split
        · omega
        · simp only [List.length_append, List.length_cons, List.length_nil]; omega
      · split
        · simp only [List.length_append, List.length_cons, List.length_nil]; omega
        · simp only [List.length_append, List.length_cons, List.length_nil]; omega
set_option maxHeartbeats 2000000 in
theorem l10Cut_c (l : List Fl) (s : ByteArray) (n : Nat) (hn : Hid (n = l.length)) (hb : n ≤ 1099511627) (x : Option Addr) (cap : Nat) (w : World) (h : GAt flC w.heap.size w x l) :
    Calls Try.prog 81 #[.slice x n cap, .string s] w (OwnF w (cutF l s.toList)) := by
  obtain ⟨i0, hi, hz0, hz1, hz2⟩ := info_partsT infoFl
  have HI0 := Lib.hid hi
  have HZ0 := Lib.hid hz0
  have HZ1 := Lib.hid hz1
  have HZ2 := Lib.hid hz2
  clear hi hz0 hz1 hz2
  have R0 := World.ownsRow_made (base := w.heap.size) (e := 84) (size := 2) w #[] 0 (Nat.le_refl _) (by simp [maxLen]) rfl
  have B0 : Below w.heap.size w (w.alloc (.cells #[] 84)) := below_new _ _
  go_enter Try.func81, Try.ntmps81
  go_wp2_with fail
  go_loopw [5, 6] (fun o i wr => ∃ k : Nat, k ≤ n ∧ i = .int .i64 k ∧ wr.ownsRow w.heap.size 84 2 o (cutF (l.take k) s.toList).length (flatG flC (cutF (l.take k) s.toList)) ∧ Below w.heap.size w wr) (fun _ i _ => n - (RowKit.intOf i).toNat)
  case atStart => exact ⟨0, Nat.zero_le _, rfl, R0, B0⟩
  case round =>
    obtain ⟨k, hk, rfl, hrow, hbw⟩ := hrel
    clear R0 B0
    by_cases hlt : k < n
    · obtain ⟨f, hf⟩ := getG (l := l) (k := k) (by rw [← hn.out]; exact hlt)
      obtain ⟨g, off, rfl, _, d0, d1⟩ := (h.next hbw).fl hf
      have hkn : (k : Int) < (n : Int) := by omega
      have hw1 : IntKind.i64.wrap ((k : Int) + 1) = (k : Int) + 1 := IntWalk.i64_in _ (by omega)
      have hcl : (cutF (l.take k) s.toList).length ≤ k := Nat.le_trans (List.length_filter_le _ _) (by rw [List.length_take]; omega)
      have HCN := Lib.hid (cut_next s.toList hf)
      clear hf
      cases hq : (f.name.toList == s.toList) with
      | true =>
        have HC2 : Hid (cutF (l.take (k + 1)) s.toList = cutF (l.take k) s.toList) := Lib.hid (by rw [HCN.out, show (f.key == s.toList) = true from hq, if_pos rfl])
        go_wp2_with fail
        go_roundw
        case rel => exact ⟨k + 1, by omega, by go_num, by rw [HC2.out]; exact hrow, hbw⟩
        case measure => simp [RowKit.intOf]; omega
      | false =>
        have HC2 : Hid (cutF (l.take (k + 1)) s.toList = cutF (l.take k) s.toList ++ [f]) := Lib.hid (by rw [HCN.out, show (f.key == s.toList) = false from hq, if_neg (by simp)])
        obtain ⟨C, hC⟩ : ∃ C, cutF (l.take k) s.toList = C := ⟨_, rfl⟩
        rw [hC] at HC2 hcl hrow
        have O1 := Lib.hid (hrow.alloc (.cells #[.string f.name, .string f.data] 84))
        have NS := Lib.hid (cells_newG flC wr f 84)
        have B1 := hbw.alloc hbw.size (.cells #[.string f.name, .string f.data] 84)
        have HLo := Lib.hid (fun j hj => (hrow.lt j hj).1)
        have hs3 := hbw.size
        clear hrow hC HCN
        go_wp2_with (at_builtin; go_loud (refine wpList_append_own _ rfl _ _ 28 rfl w.heap.size 84 i0 (.agg #[.string ⟨#[]⟩, .string ⟨#[]⟩]) 2 32 Try.underlying28 HI0.out HZ0.out HZ1.out HZ2.out rfl (by decide) _ _ _ rfl O1.out ⟨wr.heap.size, 0, none⟩ 1 1 [.string f.name, .string f.data] rfl rfl NS.out (by intro u hu; simp at hu; rcases hu with rfl | rfl <;> rfl) (by unfold maxLen; omega) (by omega) (by simp; omega) ?_); intro v4 w4 hown4 hgrow4 _)
        have B4 := B1.grown hgrow4 B1.size (fun j hj => HLo.out j hj)
        go_roundw
        case rel => exact ⟨k + 1, by omega, by go_num, by rw [HC2.out, flatG_append, List.length_append]; exact hown4, B4⟩
        case measure => simp [RowKit.intOf]; omega
    · have e : k = n := by omega
      have hkn : ¬ (k : Int) < (n : Int) := by omega
      have hr1 := hrow
      rw [e, hn.out, List.take_length] at hr1
      obtain ⟨y, cy, rfl, hR⟩ := grow_form (C := flC) hr1 rfl
      clear e hr1 hrow
      go_wp2_with fail
      go_returns
      exact ⟨y, cy, rfl, hR, hbw⟩
end Go.Proofs.Ytgmjdalfbebgbaa
