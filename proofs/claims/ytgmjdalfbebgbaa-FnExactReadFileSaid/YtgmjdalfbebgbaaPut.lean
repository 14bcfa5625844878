/- Numbers as four bytes, the highest first: the reference's way. -/
import Derived.Test.YtgmjdalfbebgbaaBase
import Derived.Laws.BytesArg
import Derived.OwnWalk
namespace Go.Proofs.Ytgmjdalfbebgbaa
open Go.ChangeShapes Go.WideShapes Go.ChangeAt Go.RowKit

/-- The four bytes of a number, the highest first. -/
def nums4 (n : Int) : List Int := [n / 16777216 % 256, n / 65536 % 256, n / 256 % 256, n % 256]
def put4 (n : Int) : ByteArray := strOfNums (nums4 n)
theorem put4_quo (n : Int) : strOfNums [n / 256 / 256 / 256 % 256, n / 256 / 256 % 256, n / 256 % 256, n % 256] = put4 n := by
  have e1 : n / 256 / 256 / 256 = n / 16777216 := by omega
  have e2 : n / 256 / 256 = n / 65536 := by omega
  rw [e1, e2]; rfl

/-- 'string(b)' of a slice that the call owns. -/
theorem convert_owned {P : Program} {src e dst : TypeId} (hs : P.underlying src = some (.slice e)) (he : P.underlying e = some (.int .u8)) (hd : P.underlying dst = some .string) {w : World} {base : Nat} {v : Value} {ys : List Int}
    (h : w.ownsRow base e 1 v ys.length (ys.map (Value.int .u8))) : (convert src dst v).run P w = .ok (.string (strOfNums ys)) w := by
  obtain ⟨_, ⟨rfl, h0⟩ | ⟨g, cap, cur, rfl, _⟩⟩ := id h
  · obtain rfl : ys = [] := by simpa using h0
    exact run_convert_bytes_nil (P := P) w src e hs he _ _ dst hd
  · refine run_convert_bytes_arg (P := P) w src e hs he g 0 ys.length cap ys rfl (fun i hi => ?_) dst hd
    have := h.cells (g := g) rfl i (.int .u8 (ys.getD i 0)) (by simp [List.getElem?_eq_getElem hi])
    have hadd : (⟨g, 0, none⟩ : Addr).add i = ⟨g, 0 + i, none⟩ := by unfold Addr.add; split <;> simp_all
    rwa [hadd] at this

theorem cells4 (w : World) (T : TypeId) (a b c d : Int) (i : Nat) (hi : i < 4) : (w.alloc (.cells #[.int .u8 a, .int .u8 b, .int .u8 c, .int .u8 d] T)).cell? ⟨w.heap.size, 0 + i, none⟩ = some (.int .u8 ([a, b, c, d].getD i 0)) := by
  match i, hi with
  | 0, _ => simp
  | 1, _ => simp
  | 2, _ => simp
  | 3, _ => simp

end Go.Proofs.Ytgmjdalfbebgbaa
