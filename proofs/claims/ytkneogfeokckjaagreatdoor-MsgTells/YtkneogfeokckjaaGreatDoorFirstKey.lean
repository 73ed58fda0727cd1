/- The contract of package digest's inner firstKey: the digest of the kind's two bytes, the secret and the vector. -/
import Derived.Test.YtkneogfeokckjaaGreatDoorMd5
import Derived.Test.YtkneogfeokckjaaGreatDoorMaskPlain
namespace Go.Proofs.YtkneogfeokckjaaGreatDoor
open Go.RowKit

set_option maxRecDepth 100000 in
theorem two_conv (w : World) (C : Array Value) (a b : UInt8) :
    (convert 127 9 (.slice (some ⟨w.heap.size + 1, 0, none⟩) 2 2)).run Tryz.prog ((w.alloc (.cells C 230)).alloc (.cells #[.int .u8 (a.toNat : Int), .int .u8 (b.toNat : Int)] 5)) = .ok (.string ⟨#[a, b]⟩) ((w.alloc (.cells C 230)).alloc (.cells #[.int .u8 (a.toNat : Int), .int .u8 (b.toNat : Int)] 5)) := by
  have hb := run_convert_bytes_arg (P := Tryz.prog) ((w.alloc (.cells C 230)).alloc (.cells #[.int .u8 (a.toNat : Int), .int .u8 (b.toNat : Int)] 5)) 127 5 Tryz.underlying127 Tryz.underlying5 (w.heap.size + 1) 0 2 2 [(a.toNat : Int), (b.toNat : Int)] rfl (fun i hi => by
    have hs : (w.alloc (.cells C 230)).heap.size = w.heap.size + 1 := by simp
    rw [Nat.zero_add, ← hs, cell_of_row _ _ i _ _ _ (heap_alloc_new (w.alloc (.cells C 230)) _)]
    rcases (show i = 0 ∨ i = 1 by omega) with rfl | rfl <;> rfl) 9 Tryz.underlying9
  rw [hb]
  congr 2
  apply ByteArray.ext
  apply Array.toList_inj.1
  rw [strOfNums_data]
  simp

def MInv0 (w W : World) : Prop := W.heap[w.heap.size]? = some (.cells Z16b 230 (0, 0)) ∧ Below w.heap.size w W
theorem MInv0.next {w W W' : World} (h : MInv0 w W) (hb : Bel W W') : MInv0 w W' :=
  ⟨(Below.block hb _ (Array.getElem?_eq_some_iff.1 h.1).1).trans h.1, h.2.trans (Below.mono hb (Nat.le_of_lt (Array.getElem?_eq_some_iff.1 h.1).1))⟩

set_option maxRecDepth 100000 in
set_option maxHeartbeats 1000000 in
theorem firstKey_any (k : Int) (s v : ByteArray) (hs : s.size ≤ 1099511627776) (hv : v.size ≤ 1099511627776) (w : World) (hT : Tables w) :
    Calls Tryz.prog 187 #[.int .i64 k, .string s, .string v] w fun e w' => e = .returned (.agg (Lib.byteCells (firstF k s.data.toList v.data.toList)).toArray) ∧ Below w.heap.size w w' := by
  obtain ⟨A, hA⟩ : ∃ A, A = UInt8.ofNat (k / 256 % 256).toNat := ⟨_, rfl⟩
  obtain ⟨B, hB⟩ : ∃ B, B = UInt8.ofNat (k % 256).toNat := ⟨_, rfl⟩
  have eA : k / 256 % 256 = (A.toNat : Int) := by rw [hA, UInt8.toNat_ofNat']; omega
  have eB : k % 256 = (B.toNat : Int) := by rw [hB, UInt8.toNat_ofNat']; omega
  have hkl : kindL k = [A, B] := by rw [hA, hB]; rfl
  have hc := two_conv w Z16b A B
  have hI : MInv0 w ((w.alloc (.cells Z16b 230)).alloc (.cells #[.int .u8 (A.toNat : Int), .int .u8 (B.toNat : Int)] 5)) :=
    ⟨(heap_alloc_old (w.alloc (.cells Z16b 230)) _ (by simp)).trans (heap_alloc_new w _), ((Below.refl _ _).alloc (Nat.le_refl _) _).alloc (by simp) _⟩
  have hm := fun W hT => md5_any (⟨#[A, B]⟩ ++ s ++ v) (by rw [ByteArray.size_append, ByteArray.size_append]; have : (⟨#[A, B]⟩ : ByteArray).size = 2 := rfl; omega) W hT
  have e : md5F (⟨#[A, B]⟩ ++ s ++ v : ByteArray).data.toList = firstF k s.data.toList v.data.toList := by
    unfold firstF
    rw [hkl]
    congr 1
  rw [e] at hm
  have hl := firstF_length k s.data.toList v.data.toList
  have hDs : (Lib.byteCells (firstF k s.data.toList v.data.toList)).toArray.size = 16 := by simp [Lib.byteCells, hl]
  have hD1 : (Lib.byteCells (firstF k s.data.toList v.data.toList)).toArray.all (·.oneCell') = true := all_oneCell_toArray (fun v hv => Lib.byteCells_one _ v hv)
  generalize (Lib.byteCells (firstF k s.data.toList v.data.toList)).toArray = D at hm hDs hD1
  have HM := hide (hm _ (hT.next hI.2))
  have HI := hide hI
  have HDS := hide hDs
  have HD1 := hide hD1
  have h2 : (⟨#[A, B]⟩ : ByteArray).size = 2 := rfl
  clear hm hI hDs hD1 hl e hkl hA hB hT
  go_enter Tryz.func187, Tryz.ntmps187
  go_wp2_with (first
    | (go_at_call 192; refine HM.out.mono ?_; rintro e w1 ⟨rfl, hb1⟩)
    | (refine wpList_store_row rfl 230 _ _ rfl w.heap.size D rfl rfl 230 Z16b (HI.out.next hb1).1 (by rw [HDS.out]; kernel_rfl) (by rw [HDS.out]; rfl) HD1.out ?_))
  refine bodyPost_ret (v := .agg D) ?_ rfl ⟨rfl, below_row (HI.out.next hb1).2 D⟩
  exact results_cell_row Tryz.results187 _ _ w.heap.size 230 D (0, 0) _ rfl (setRow_heap _ _ _ _ _ _ (HI.out.next hb1).1) Tryz.underlying230 rfl (by rw [HDS.out]; kernel_rfl)
end Go.Proofs.YtkneogfeokckjaaGreatDoor
