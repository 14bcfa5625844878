/- Somebody comes to a limiter: the program's way. -/
import Derived.Test.YtckonbbdeohccaaClList
namespace Go.Proofs.Ytckonbbdeohccaa
open Go.ChangeShapes Go.WideShapes Go.ChangeAt Go.RowKit Go.Maps
set_option linter.unusedVariables false
set_option linter.unusedSimpArgs false
set_option maxRecDepth 100000

def camV (l : List Cl) (id now : Int) : Option (List Cl × Int) := if limOk l = true then comeV l id now else none
def resC (o : Option (List Cl × Int)) : List Cl := match o with | some (l', _) => l' | none => []
/-- What Came answers: a limiter of the call's own, what is told, whether. -/
def CamOut (W : World) (o : Option (List Cl × Int)) : Ending → World → Prop := fun e w' =>
  ∃ (x : Option Addr) (cap : Nat), e = .returned (.tuple #[.agg #[.slice x (resC o).length cap], .int .i64 (toldC o), .bool o.isSome]) ∧ ClRow W.heap.size w' x cap (resC o) ∧ Below W.heap.size W w'
theorem clRow_nil (base : Nat) (w : World) : ClRow base w none 0 [] := World.ownsRow_nil _ _ _ _
set_option maxHeartbeats 4000000 in
theorem came_impl (l : List Cl) (n : Nat) (hn : Hid (n = l.length)) (hm : n ≤ maxLen) (id now : Int) (x : Option Addr) (cap : Nat) (w : World) (h : Cls w.heap.size w x l) :
    Calls Try.prog 14 #[.agg #[.slice x n cap], .int .i64 id, .int .i64 now] w (CamOut w (camV l id now)) := by
  have HL := Lib.hid (fun w h => limOk_impl l n hn hm x cap w h)
  have Q0 := blk_alloc (blk_new w (.cells #[.slice x n cap] 28)) (.cells #[.slice none 0 0] 28)
  have Q1 := blk_new (w.alloc (.cells #[.slice x n cap] 28)) (.cells #[.slice none 0 0] 28)
  simp only [World.size_alloc] at Q1
  have B0 : Below w.heap.size w ((w.alloc (.cells #[.slice x n cap] 28)).alloc (.cells #[.slice none 0 0] 28)) := by go_grown
  go_enter Try.func14, Try.ntmps14
  go_upto_region 1 with fail
  generalize (w.alloc (.cells #[.slice x n cap] 28)).alloc (.cells #[.slice none 0 0] 28) = W at *
  obtain ⟨c0, _⟩ := one_cell Q0
  go_wp2_with fail
  refine (HL.out _ (h.next B0)).mono ?_
  rintro e w1 ⟨rfl, b1⟩
  have B1 := grow_next B0 b1
  have R0 := blk_next b1 Q0
  have R1 := blk_next b1 Q1
  clear Q0 Q1 c0 b1 B0 HL
  have hbox : w.heap.size + 1 < w1.heap.size := (Array.getElem?_eq_some_iff.1 R1).1
  cases ho : limOk l with
  | false =>
    have HV : Hid (camV l id now = none) := Lib.hid (by unfold camV; rw [ho]; rfl)
    obtain ⟨c0, c1⟩ := one_cell R1
    have V := heap_set R1 0 (.slice none 0 0)
    have G := below_setCell B1 (b := w.heap.size + 1) (by omega) 0 (.slice none 0 0)
    go_wp2_with fail
    obtain ⟨q0, _⟩ := one_cell V
    try simp only [Exit.inBlock, Exit.then]
    refine bodyPost_ret (by simp [results, Try.results14, go_sem, q0]; try rfl) rfl ?_
    exact ⟨none, 0, by rw [HV.out]; rfl, by rw [HV.out]; exact clRow_nil _ _, G⟩
  | true =>
    have HV : Hid (camV l id now = comeV l id now) := Lib.hid (by unfold camV; rw [if_pos ho])
    have HOK := Lib.hid ho
    have HC := Lib.hid (clientsOf_c l ho n hn x cap _ (h.next B1))
    have hok2 := comeV_ok (id := id) (now := now) ho
    obtain ⟨c0, _⟩ := one_cell R0
    clear ho
    go_wp2_with fail
    refine HC.out.mono ?_
    rintro e w2 ⟨b, rfl, hbb, M2, b2⟩
    have B2 := grow_next B1 b2
    have R2 := blk_next b2 R1
    clear HC b2 R1 R0 c0
    have HCM := Lib.hid (come_c l HOK.out b id now w2 M2)
    obtain ⟨o, ho⟩ : ∃ o, comeV l id now = o := ⟨_, rfl⟩
    rw [ho] at HCM HV hok2
    clear ho
    go_wp2_with fail
    refine HCM.out.mono ?_
    rintro e w3 ⟨rfl, M3, g3⟩
    have B3 : Below w.heap.size w w3 := B2.grown g3 B2.size (fun j hj => by cases hj; have := B1.size; omega)
    have R3 := (g3.block (w.heap.size + 1) (Array.getElem?_eq_some_iff.1 R2).1 (by simp only [ne_eq, Option.some.injEq]; omega)).trans R2
    clear HCM R2 g3
    cases o with
    | none =>
      obtain ⟨c0, c1⟩ := one_cell R3
      have V := heap_set R3 0 (.slice none 0 0)
      have G := below_setCell B3 (b := w.heap.size + 1) (by omega) 0 (.slice none 0 0)
      go_wp2_with fail
      obtain ⟨q0, _⟩ := one_cell V
      try simp only [Exit.inBlock, Exit.then]
      refine bodyPost_ret (by simp [results, Try.results14, go_sem, q0]; try rfl) rfl ?_
      exact ⟨none, 0, by rw [HV.out]; rfl, by rw [HV.out]; exact clRow_nil _ _, G⟩
    | some p =>
      obtain ⟨l', t⟩ := p
      obtain ⟨r1, r2, r3⟩ := limOk_iff.1 hok2
      have HM := Lib.hid (limiter_c l' l'.length (Lib.hid rfl) r3 r2 b w3 M3)
      clear r1 r2 r3 hok2
      go_wp2_with fail
      refine HM.out.mono ?_
      rintro e w4 ⟨y, cy, rfl, hr, b4⟩
      have B4 := grow_next B3 b4
      have R4 := blk_next b4 R3
      obtain ⟨c0, c1⟩ := one_cell R4
      have V := heap_set R4 0 (.slice y l'.length cy)
      have G := below_setCell B4 (b := w.heap.size + 1) (by omega) 0 (.slice y l'.length cy)
      have gS : w4.grownBy (w4.setCell ⟨w.heap.size + 1, 0, none⟩ (.slice y l'.length cy)) (some (w.heap.size + 1)) := grown_setC (World.grownBy.refl _ _) 0 _
      have hlt3 := (Array.getElem?_eq_some_iff.1 R3).1
      have hr2 := hr.keep gS (fun g e => by have := (e ▸ hr).lt.1; simp only [ne_eq, Option.some.injEq]; omega)
      have hr3 : ClRow w.heap.size _ y cy l' := ownsRow_base_le hr2 B3.size
      clear HM hr hr2 gS R3 R4 B4 b4
      go_wp2_with fail
      obtain ⟨q0, _⟩ := one_cell V
      try simp only [Exit.inBlock, Exit.then]
      refine bodyPost_ret (by simp [results, Try.results14, go_sem, q0]; try rfl) rfl ?_
      exact ⟨y, cy, by rw [HV.out]; rfl, by rw [HV.out]; exact hr3, G⟩
end Go.Proofs.Ytckonbbdeohccaa
