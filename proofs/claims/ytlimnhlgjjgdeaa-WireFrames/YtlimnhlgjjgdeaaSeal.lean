/- The contract of wire.Seal: the bytes, and their check sum in two bytes, the lower one first; for every string of at most 2^40 bytes. -/
import Derived.Test.YtlimnhlgjjgdeaaPut
import Derived.Deep.AppendLies
namespace Go.Proofs.Ytlimnhlgjjgdeaa
open Go.RowKit

def sealF (l : List UInt8) : List UInt8 := l ++ [UInt8.ofNat (fcs l % 256), UInt8.ofNat (fcs l / 256)]
theorem fcs_lt (l : List UInt8) : fcs l < 65536 := by unfold fcs; omega

/-- 'string([]byte{a, b})'. -/
theorem conv_two (W : World) (a b : Nat) :
    (convert 47 9 (.slice (some ⟨W.heap.size, 0, none⟩) 2 2)).run Try.prog (W.alloc (.cells #[.int .u8 (a : Int), .int .u8 (b : Int)] 5)) = .ok (.string ⟨#[UInt8.ofNat a, UInt8.ofNat b]⟩) (W.alloc (.cells #[.int .u8 (a : Int), .int .u8 (b : Int)] 5)) := by
  have h := run_convert_bytes_arg (P := Try.prog) (W.alloc (.cells #[.int .u8 (a : Int), .int .u8 (b : Int)] 5)) 47 5 Try.underlying47 Try.underlying5 W.heap.size 0 2 2 [(a : Int), (b : Int)] rfl (fun i hi => by
    rw [Nat.zero_add, ← addr_add W.heap.size i]
    refine World.news_of_block (heap_alloc_new W _) i _ ?_
    rcases (show i = 0 ∨ i = 1 by omega) with h | h <;> subst h <;> rfl) 9 Try.underlying9
  rw [h]
  rfl

set_option maxHeartbeats 400000 in
theorem seal_any (s : ByteArray) (hs : s.size ≤ 1099511627776) (w : World) :
    Calls Try.prog 28 #[.string s] w fun e w' => e = .returned (.string ⟨(sealF s.data.toList).toArray⟩) ∧ Below w.heap.size w w' := by
  have hf := fcs_lt s.data.toList
  have HF : Hid (∀ w, Calls Try.prog 19 #[.string s] w fun e w' => e = .returned (.int .i64 (fcs s.data.toList : Int)) ∧ w' = w) := fun w => fcs_any s (by unfold maxLen; omega) w
  have HE : Hid ((⟨(sealF s.data.toList).toArray⟩ : ByteArray) = s ++ ⟨#[UInt8.ofNat (fcs s.data.toList % 256), UInt8.ofNat (fcs s.data.toList / 256)]⟩) := by
    apply ByteArray.ext
    apply Array.toList_inj.1
    simp [sealF]
  rw [HE.out]
  clear HE
  generalize fcs s.data.toList = f at hf HF
  go_enter Try.func28, Try.ntmps28
  go_wp2_with fail
  refine (HF.out _).mono ?_
  rintro e w1 ⟨rfl, rfl⟩
  have hcv : (convert 47 9 (.slice (some ⟨w1.heap.size, 0, none⟩) 2 2)).run Try.prog (w1.alloc (.cells #[.int .u8 ((f : Int) % 256), .int .u8 ((f : Int) / 256)] 5)) = _ := conv_two w1 (f % 256) (f / 256)
  go_wp2
  go_ret
  exact ⟨rfl, (Below.refl _ _).alloc (Nat.le_refl _) _⟩
end Go.Proofs.Ytlimnhlgjjgdeaa
