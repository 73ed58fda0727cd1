/- The contract of the document's own Md5: the digest of every text of at most 2^40 bytes. -/
import Derived.Test.YtkneogfeokckjaaGreatDoorMd5
import Derived.Test.YtkneogfeokckjaaGreatDoorOneConv
import Derived.Test.YtkneogfeokckjaaGreatDoorRefTurn
import Derived.Deep.CutBlock
import Derived.Deep.DeepCutAuto
namespace Go.Proofs.YtkneogfeokckjaaGreatDoor
open Go.RowKit

/-- The result's block and the two lists, as the call itself has laid them. -/
structure RInv (w W : World) : Prop where
  res : W.heap[w.heap.size]? = some (.cells Z16b 230 (0, 0))
  sine : ∀ i, i < 64 → W.cell? ⟨w.heap.size + 1, i, none⟩ = some (.int .i64 (sineF i : Int))
  turn : ∀ i, i < 64 → W.cell? ⟨w.heap.size + 1 + 1, i / 16 * 4 + i % 4, none⟩ = some (.int .i64 (turnF i : Int))
  size : w.heap.size + 1 + 1 < W.heap.size
  bel : Below w.heap.size w W
set_option maxRecDepth 100000 in
theorem RInv.next {w W W' : World} (I : RInv w W) (hb : Bel W W') : RInv w W' :=
  ⟨(Below.block hb _ (by have := I.size; omega)).trans I.res, fun i hi => (Below.cell hb (p := ⟨w.heap.size + 1, i, none⟩) (by have := I.size; show w.heap.size + 1 < _; omega)).trans (I.sine i hi),
    fun i hi => (Below.cell hb (p := ⟨w.heap.size + 1 + 1, i / 16 * 4 + i % 4, none⟩) I.size).trans (I.turn i hi), Nat.lt_of_lt_of_le I.size (Below.size hb), I.bel.trans (Below.mono hb (by have := I.size; omega))⟩
set_option maxRecDepth 100000 in
theorem RInv.drew {w W : World} (I : RInv w W) : RInv w W.drew := I.next (Below.refl _ _).drew
theorem RInv.alloc {w W : World} (I : RInv w W) (o : Obj) : RInv w (W.alloc o) := I.next ((Below.refl _ _).alloc (Nat.le_refl _) o)

abbrev sinesA : Array Value := #[.int .i64 3614090360, .int .i64 3905402710, .int .i64 606105819, .int .i64 3250441966, .int .i64 4118548399, .int .i64 1200080426, .int .i64 2821735955, .int .i64 4249261313, .int .i64 1770035416, .int .i64 2336552879, .int .i64 4294925233, .int .i64 2304563134, .int .i64 1804603682, .int .i64 4254626195, .int .i64 2792965006, .int .i64 1236535329, .int .i64 4129170786, .int .i64 3225465664, .int .i64 643717713, .int .i64 3921069994, .int .i64 3593408605, .int .i64 38016083, .int .i64 3634488961, .int .i64 3889429448, .int .i64 568446438, .int .i64 3275163606, .int .i64 4107603335, .int .i64 1163531501, .int .i64 2850285829, .int .i64 4243563512, .int .i64 1735328473, .int .i64 2368359562, .int .i64 4294588738, .int .i64 2272392833, .int .i64 1839030562, .int .i64 4259657740, .int .i64 2763975236, .int .i64 1272893353, .int .i64 4139469664, .int .i64 3200236656, .int .i64 681279174, .int .i64 3936430074, .int .i64 3572445317, .int .i64 76029189, .int .i64 3654602809, .int .i64 3873151461, .int .i64 530742520, .int .i64 3299628645, .int .i64 4096336452, .int .i64 1126891415, .int .i64 2878612391, .int .i64 4237533241, .int .i64 1700485571, .int .i64 2399980690, .int .i64 4293915773, .int .i64 2240044497, .int .i64 1873313359, .int .i64 4264355552, .int .i64 2734768916, .int .i64 1309151649, .int .i64 4149444226, .int .i64 3174756917, .int .i64 718787259, .int .i64 3951481745]
abbrev turnsA : Array Value := #[.int .i64 7, .int .i64 12, .int .i64 17, .int .i64 22, .int .i64 5, .int .i64 9, .int .i64 14, .int .i64 20, .int .i64 4, .int .i64 11, .int .i64 16, .int .i64 23, .int .i64 6, .int .i64 10, .int .i64 15, .int .i64 21]
set_option maxRecDepth 100000 in
theorem sinesA_eq : sinesA = (sinesL.map fun (n : Nat) => Value.int .i64 (n : Int)).toArray := by kernel_rfl
theorem turnsA_eq : turnsA = (turnsL.map fun (n : Nat) => Value.int .i64 (n : Int)).toArray := by kernel_rfl
set_option maxRecDepth 100000 in
theorem sinesA_at (i : Nat) (h : i < 64) : sinesA[i]? = some (.int .i64 (sineF i : Int)) := by
  have hl : i < sinesL.length := h
  rw [sinesA_eq, List.getElem?_toArray, List.getElem?_map, List.getElem?_eq_getElem hl]
  unfold sineF
  rw [List.getD_eq_getElem?_getD, List.getElem?_eq_getElem hl]
  rfl
set_option maxRecDepth 100000 in
theorem turnsA_at (i : Nat) (h : i < 64) : turnsA[i / 16 * 4 + i % 4]? = some (.int .i64 (turnF i : Int)) := by
  have hl : i / 16 * 4 + i % 4 < turnsL.length := by show i / 16 * 4 + i % 4 < 16; omega
  rw [turnsA_eq, List.getElem?_toArray, List.getElem?_map, List.getElem?_eq_getElem hl]
  unfold turnF
  rw [List.getD_eq_getElem?_getD, List.getElem?_eq_getElem hl]
  rfl
set_option maxRecDepth 100000 in
theorem rinv_new (w : World) : RInv w (((w.alloc (.cells Z16b 230)).alloc (.cells sinesA 3)).alloc (.cells turnsA 3)) := by
  have s1 : (w.alloc (.cells Z16b 230)).heap.size = w.heap.size + 1 := by simp
  have s2 : ((w.alloc (.cells Z16b 230)).alloc (.cells sinesA 3)).heap.size = w.heap.size + 1 + 1 := by rw [← s1]; simp
  generalize hS : sinesA = S
  generalize hU : turnsA = U
  rw [hS] at s2
  have h1 := heap_alloc_new (w.alloc (.cells Z16b 230)) (.cells S 3)
  rw [s1] at h1
  have h2 := heap_alloc_new ((w.alloc (.cells Z16b 230)).alloc (.cells S 3)) (.cells U 3)
  rw [s2] at h2
  refine ⟨(heap_alloc_old _ _ (by omega)).trans ((heap_alloc_old _ _ (by omega)).trans (heap_alloc_new w _)), fun i hi => ?_, fun i hi => ?_, ?_, (((Below.refl _ _).alloc (Nat.le_refl _) _).alloc (by omega) _).alloc (by omega) _⟩
  · rw [cell_of_row _ (w.heap.size + 1) i S 3 (0, 0) ((heap_alloc_old _ _ (by omega)).trans h1), ← hS]
    exact sinesA_at i hi
  · rw [cell_of_row _ (w.heap.size + 1 + 1) _ U 3 (0, 0) h2, ← hU]
    exact turnsA_at i hi
  · have : (((w.alloc (.cells Z16b 230)).alloc (.cells S 3)).alloc (.cells U 3)).heap.size = ((w.alloc (.cells Z16b 230)).alloc (.cells S 3)).heap.size + 1 := by simp
    omega

set_option maxRecDepth 100000 in
theorem index_at (s : ByteArray) (k : Nat) (h : k < s.size) (i : Int) (hi : i = (k : Int)) (W : World) :
    (Instr.index 9 (.string s) (.int .i64 i)).run Tryz.prog W = .ok (.int .u8 ((s.data.toList.getD k 0).toNat : Int)) W := by
  subst hi
  rw [run_index_string W 9 s .i64 (k : Int) Tryz.underlying9, dif_pos ⟨by omega, by omega⟩]
  have hg : s.data.toList.getD k 0 = s[k] := by
    rw [List.getD_eq_getElem?_getD, List.getElem?_eq_getElem (by simpa using h)]
    rfl
  rw [hg]
  rfl

/-- Four ints, as the document's own digest holds them. -/
def fourI (s : Four) : Array Value := #[.int .i64 (s.a : Int), .int .i64 (s.b : Int), .int .i64 (s.c : Int), .int .i64 (s.d : Int)]
def IsFourI (W : World) (g : Nat) (s : Four) : Prop := W.heap[g]? = some (.cells (fourI s) 242 (0, 0))
set_option maxRecDepth 100000 in
theorem fourI_at (s : Four) (j : Nat) (h : j < 4) : (fourI s)[j]? = some (.int .i64 (s.at j : Int)) := by
  rcases (show j = 0 ∨ j = 1 ∨ j = 2 ∨ j = 3 by omega) with rfl | rfl | rfl | rfl <;> rfl
set_option maxRecDepth 100000 in
theorem IsFourI.lt {W : World} {g : Nat} {s : Four} (h : IsFourI W g s) : g < W.heap.size := (Array.getElem?_eq_some_iff.1 h).1
theorem IsFourI.next {W W' : World} {g : Nat} {s : Four} (h : IsFourI W g s) (hb : Bel W W') : IsFourI W' g s := (Below.block hb g h.lt).trans h
set_option maxRecDepth 100000 in
theorem IsFourI.cell {W : World} {g : Nat} {s : Four} (h : IsFourI W g s) (j : Nat) (hj : j < 4) : W.cell? ⟨g, j, none⟩ = some (.int .i64 (s.at j : Int)) := by
  rw [cell_of_row W g j _ _ _ h]
  exact fourI_at s j hj
set_option maxRecDepth 100000 in
theorem IsFourI.frozen {W : World} {g : Nat} {s : Four} (h : IsFourI W g s) (j : Nat) : W.frozen? ⟨g, j, none⟩ = false := frozen_of_row W g j _ _ h
theorem setCells_fourI (W : World) (g : Nat) (s t : Four) (hg : IsFourI W g s) :
    (((W.setCell ⟨g, 0, none⟩ (.int .i64 (t.a : Int))).setCell ⟨g, 1, none⟩ (.int .i64 (t.b : Int))).setCell ⟨g, 2, none⟩ (.int .i64 (t.c : Int))).setCell ⟨g, 3, none⟩ (.int .i64 (t.d : Int)) = W.setRow g (fourI t) := by
  have r1 := run_storeCells_at Tryz.prog g 0 242 (fourI t).toList 0 (fourI s) W hg (by simp [fourI]) (by simp [fourI, Value.oneCell'])
  have r2 := run_storeCells_cells (P := Tryz.prog) g 0 (fourI t).toList 0 W (fun j hj => by
    rw [Nat.add_zero, Nat.zero_add, hg.cell j (by simpa [fourI] using hj)]
    rfl) (fun j _ => by rw [Nat.add_zero, Nat.zero_add]; exact hg.frozen j) (by simp [fourI, Value.oneCell'])
  rw [r1] at r2
  simp only [Result.ok.injEq, true_and] at r2
  exact r2.symm

set_option maxRecDepth 100000 in
theorem RInv.set {w W : World} (I : RInv w W) {A : Nat} (hA : w.heap.size + 1 + 1 < A) (cs : Array Value) : RInv w (W.setRow A cs) :=
  ⟨(setRow_other W _ _ _ (by omega)).trans I.res, fun i hi => (World.cell?_of_block (a := ⟨w.heap.size + 1, i, none⟩) (setRow_other W _ _ _ (by show w.heap.size + 1 ≠ A; omega))).trans (I.sine i hi),
    fun i hi => (World.cell?_of_block (a := ⟨w.heap.size + 1 + 1, i / 16 * 4 + i % 4, none⟩) (setRow_other W _ _ _ (by show w.heap.size + 1 + 1 ≠ A; omega))).trans (I.turn i hi),
    by have := I.size; simpa using this, I.bel.trans ⟨rfl, rfl, rfl, by simp, fun k hk => setRow_other _ _ _ _ (by omega)⟩⟩
set_option maxRecDepth 100000 in
theorem mix_0 (i x y z : Nat) (h : i / 16 = 0) : mixF i x y z = (x &&& y) ||| ((4294967295 - x) &&& z) := by unfold mixF; rw [if_pos h]
theorem mix_1 (i x y z : Nat) (h : i / 16 = 1) : mixF i x y z = (z &&& x) ||| ((4294967295 - z) &&& y) := by unfold mixF; rw [if_neg (by omega), if_pos h, Nat.and_comm z x, Nat.and_comm (4294967295 - z) y]
set_option maxRecDepth 100000 in
theorem mix_2 (i x y z : Nat) (h : i / 16 = 2) : mixF i x y z = x ^^^ y ^^^ z := by unfold mixF; rw [if_neg (by omega), if_neg (by omega), if_pos h]
theorem mix_3 (i x y z : Nat) (h : i / 16 = 3) : mixF i x y z = y ^^^ (x ||| (4294967295 - z)) := by unfold mixF; rw [if_neg (by omega), if_neg (by omega), if_neg (by omega)]
set_option maxRecDepth 100000 in
theorem pick_0 (i : Nat) (h : i / 16 = 0) : pickF i = i := by unfold pickF; rw [if_pos h]
theorem pick_1 (i : Nat) (h : i / 16 = 1) : pickF i = (5 * i + 1) % 16 := by unfold pickF; rw [if_neg (by omega), if_pos h]
set_option maxRecDepth 100000 in
theorem pick_2 (i : Nat) (h : i / 16 = 2) : pickF i = (3 * i + 5) % 16 := by unfold pickF; rw [if_neg (by omega), if_neg (by omega), if_pos h]
theorem pick_3 (i : Nat) (h : i / 16 = 3) : pickF i = 7 * i % 16 := by unfold pickF; rw [if_neg (by omega), if_neg (by omega), if_neg (by omega)]
set_option maxRecDepth 100000 in
theorem word_of (l : List UInt8) (n p : Nat) (hp : p < 16) :
    wordTo ((l.drop (64 * n)).take 64) 64 p = (l.getD (64 * n + 4 * p) 0).toNat + 256 * (l.getD (64 * n + 4 * p + 1) 0).toNat + 65536 * (l.getD (64 * n + 4 * p + 2) 0).toNat + 16777216 * (l.getD (64 * n + 4 * p + 3) 0).toNat := by
  have h : ∀ r, r < 64 → byteTo ((l.drop (64 * n)).take 64) 64 r = (l.getD (64 * n + r) 0).toNat := fun r hr => by
    unfold byteTo
    rw [if_pos hr, List.getD_eq_getElem?_getD, List.getD_eq_getElem?_getD, List.getElem?_take_of_lt hr, List.getElem?_drop]
  unfold wordTo
  rw [h _ (by omega), h _ (by omega), h _ (by omega), h _ (by omega), Nat.add_assoc (64 * n) (4 * p) 1, Nat.add_assoc (64 * n) (4 * p) 2, Nat.add_assoc (64 * n) (4 * p) 3]
set_option maxRecDepth 100000 in
theorem ref_sum (word : Nat → Nat) (i : Nat) (T : Four) (B0 B1 B2 B3 : Nat) (h : word (pickF i) = B0 + 256 * B1 + 65536 * B2 + 16777216 * B3) :
    ((mixF i T.b T.c T.d : Int) + (T.a : Int) + (sineF i : Int) + ((B0 : Int) + (B1 : Int) * 256 + (B2 : Int) * 65536 + (B3 : Int) * 16777216)) % 4294967296 = ((sumF word i T : Nat) : Int) := by
  unfold sumF
  rw [h]
  generalize mixF i T.b T.c T.d = x
  generalize sineF i = y
  omega

set_option maxRecDepth 100000 in
theorem pad_stop (n j z : Nat) (hz : z = 63 - (n + 8) % 64) (hj : j ≤ z) : ((n + 1 + j) % 64 = 56 ↔ j = z) := by omega

set_option maxHeartbeats 8000000 in
set_option maxRecDepth 100000 in
theorem refMd5_any (b : ByteArray) (hbs : b.size ≤ 1099511627776) (w : World) :
    Calls Tryz.prog 184 #[.string b] w fun e w' => e = .returned (.agg (Lib.byteCells (md5F b.data.toList)).toArray) ∧ Below w.heap.size w w' := by
  have hlen : b.data.toList.length = b.size := (Lib.size_eq b).symm
  obtain ⟨z, hz⟩ : ∃ z, z = 63 - (b.size + 8) % 64 := ⟨_, rfl⟩
  have HZ := hide hz
  have HLN := hide hlen
  clear hz hlen
  go_enter Tryz.func184, Tryz.ntmps184
  go_wp2
  have hR := rinv_new w
  generalize ((w.alloc (.cells Z16b 230)).alloc (.cells sinesA 3)).alloc (.cells turnsA 3) = W at hR
  have HR := hide hR
  clear hR
  go_loopw [5] (fun v wr => ∃ (j : Nat) (S : ByteArray), j ≤ z ∧ v = .string S ∧ S.data.toList = b.data.toList ++ 128 :: List.replicate j 0 ∧ wr = W) (fun v _ => b.size + 80 - (match v with | .string S => S.size | _ => 0))
  case atStart => exact ⟨0, _, Nat.zero_le _, rfl, by simp, rfl⟩
  case round =>
    obtain ⟨j, S, hj, rfl, hS, rfl⟩ := hrel
    have hsz : S.size = b.size + 1 + j := by rw [Lib.size_eq, hS, List.length_append, HLN.out]; simp; omega
    have hps := pad_stop b.size j z HZ.out hj
    by_cases hlt : j < z
    · have ht : ((S.size : Int) % 64 != 56) = true := by rw [bne_iff_ne]; omega
      have hs2 : S.size ≤ 1099511627840 := by have := HZ.out; omega
      have HS := hide hS
      have HSZ := hide hsz
      clear hS hsz hps
      go_wp2
      go_roundw
      case rel => exact ⟨j + 1, _, by omega, rfl, by rw [ByteArray.data_append, Array.toList_append, HS.out]; simp [List.replicate_succ'], by first | rfl | trivial⟩
      case measure =>
        have h1 := HSZ.out
        have h2 := HZ.out
        have e : (S ++ ⟨#[0]⟩ : ByteArray).size = S.size + 1 := by rw [ByteArray.size_append]; rfl
        show b.size + 80 - (S ++ ⟨#[0]⟩ : ByteArray).size < b.size + 80 - S.size
        rw [e]
        omega
    · have ht : ((S.size : Int) % 64 != 56) = false := by rw [bne_eq_false_iff_eq]; omega
      have HS := hide hS
      have hs2 : S.size ≤ 1099511627840 := by have := HZ.out; omega
      obtain rfl : j = z := by omega
      clear hS hps hlt hsz
      go_wp2
      have HR1 := hide (show RInv w wr from HR.out)
      clear HR
      go_loopw [5, 6, 7] (fun v s i W2 => ∃ (k : Nat) (S2 : ByteArray), k ≤ 8 ∧ v = .string S2 ∧ S2.data.toList = b.data.toList ++ 128 :: List.replicate j 0 ++ lowest (b.size * 8) k ∧ s = .int .i64 ((b.size * 8 / 2 ^ (8 * k) : Nat) : Int) ∧ i = .int .i64 (k : Int) ∧ RInv w W2) (fun _ _ i _ => 8 - (intOf i).toNat)
      case atStart => exact ⟨0, _, Nat.zero_le _, rfl, by rw [HS.out]; simp [lowest], by simp, rfl, HR1.out⟩
      case round =>
        obtain ⟨k, S2, hk, rfl, hS2, rfl, rfl, hR2⟩ := hrel
        have hsz2 : S2.size = b.size + 1 + j + k := by rw [Lib.size_eq, hS2, List.length_append, List.length_append, HLN.out, lowest_length]; simp; omega
        have hq : b.size * 8 / 2 ^ (8 * k) ≤ b.size * 8 := Nat.div_le_self _ _
        have hsm : S2.size ≤ 1099511627900 := by have := HZ.out; omega
        by_cases hlt2 : k < 8
        · obtain ⟨X, hX⟩ : ∃ X, X = UInt8.ofNat (b.size * 8 / 2 ^ (8 * k) % 256) := ⟨_, rfl⟩
          have eX : ((b.size * 8 / 2 ^ (8 * k) : Nat) : Int) % 256 = (X.toNat : Int) := by rw [hX, UInt8.toNat_ofNat']; omega
          have hcv := one_conv wr X
          have hnx : b.size * 8 / 2 ^ (8 * k) / 256 = b.size * 8 / 2 ^ (8 * (k + 1)) := by rw [Nat.div_div_eq_div_mul, show 8 * (k + 1) = 8 * k + 8 by omega, Nat.pow_add]
          have HS2 := hide hS2
          have HX := hide hX
          have HNX := hide hnx
          have HR2 := hide hR2
          clear hS2 hX hnx hR2 hsz2
          generalize b.size * 8 / 2 ^ (8 * k) = Q at hq eX HNX
          go_wp2
          go_roundw
          case rel => exact ⟨k + 1, _, by omega, rfl, by rw [ByteArray.data_append, Array.toList_append, HS2.out, lowest, HX.out, List.append_assoc], by rw [← HNX.out]; go_num, by go_num, HR2.out.alloc _⟩
          case measure => simp [intOf]; omega
        · have hk8 : k = 8 := by omega
          have hM : S2.data.toList = b.data.toList ++ padF b.size := by rw [hS2, hk8, padF, ← HZ.out]; simp
          obtain ⟨K, hK⟩ : ∃ K, K = (b.data.toList ++ padF b.size).length / 64 := ⟨_, rfl⟩
          have hMK : S2.size = 64 * K := by rw [hK, Lib.size_eq, hM, List.length_append, HLN.out, padF_length]; omega
          have hmd : md5F b.data.toList = spreadF (blocksF (b.data.toList ++ padF b.size) K firstFour) := by rw [md5F, HLN.out, hK]
          have HMD := hide hmd
          have HR2s := hide hR2.size
          have HMK := hide hMK
          have HM := hide hM
          have hA0 : IsFourI (wr.alloc (.cells #[.int .i64 1732584193, .int .i64 4023233417, .int .i64 2562383102, .int .i64 271733878] 242)) wr.heap.size firstFour := heap_alloc_new wr _
          have hR3 := hR2.alloc (.cells #[.int .i64 1732584193, .int .i64 4023233417, .int .i64 2562383102, .int .i64 271733878] 242)
          have HSM := hide hsm
          clear hS2 hM hK hMK hmd hq hR2 hsz2 hsm
          have hk7 : ¬ (k : Int) < 8 := by omega
          clear hlt2 hk8 hk
          generalize b.size * 8 / 2 ^ (8 * k) = Q8
          have hAw : w.heap.size + 1 + 1 < wr.heap.size := HR2s.out
          go_wp2
          generalize wr.alloc (.cells #[.int .i64 1732584193, .int .i64 4023233417, .int .i64 2562383102, .int .i64 271733878] 242) = W3 at hA0 hR3
          generalize wr.heap.size = A at hA0 hAw
          have H30 := hide hA0
          have H3R := hide hR3
          clear hA0 hR3
          go_loopw [9, 10, 11, 12, 13, 14, 15, 16, 17] (fun va _ _ _ _ _ _ _ _ W4 => ∃ (n m : Nat), n ≤ K ∧ m = 64 * n ∧ va = .int .i64 (m : Int) ∧ IsFourI W4 A (blocksF (b.data.toList ++ padF b.size) n firstFour) ∧ RInv w W4) (fun va _ _ _ _ _ _ _ _ _ => S2.size - (intOf va).toNat)
          case atStart => exact ⟨0, 0, Nat.zero_le _, rfl, rfl, H30.out, H3R.out⟩
          case round =>
            obtain ⟨n, m, hn, hm, rfl, hI, hRI⟩ := hrel
            have hMK := HMK.out
            have hsm := HSM.out
            by_cases hlt3 : n < K
            · have hok := blocksF_ok (b.data.toList ++ padF b.size) (s := firstFour) (by unfold Four.ok firstFour; decide) n
              have HB := hide (show blocksF (b.data.toList ++ padF b.size) (n + 1) firstFour = stirF (blocksF (b.data.toList ++ padF b.size) n firstFour) (wordTo (((b.data.toList ++ padF b.size).drop (64 * n)).take 64) 64) from rfl)
              generalize blocksF (b.data.toList ++ padF b.size) n firstFour = F at hI hok HB
              have hmS : m + 64 ≤ S2.size := by omega
              have hd1 : decide ((m : Int) < (S2.size : Int)) = true := by rw [decide_eq_true_eq]; omega
              have hd2 : decide (m < S2.size) = true := by rw [decide_eq_true_eq]; omega
              have q0 : wr.cell? ⟨A, 0, none⟩ = some (.int .i64 (F.a : Int)) := hI.cell 0 (by decide)
              have q1 : wr.cell? ⟨A, 1, none⟩ = some (.int .i64 (F.b : Int)) := hI.cell 1 (by decide)
              have q2 : wr.cell? ⟨A, 2, none⟩ = some (.int .i64 (F.c : Int)) := hI.cell 2 (by decide)
              have q3 : wr.cell? ⟨A, 3, none⟩ = some (.int .i64 (F.d : Int)) := hI.cell 3 (by decide)
              have HI := hide hI
              have HRI := hide hRI
              have HMN := hide hm
              have HOK := hide hok
              clear hI hRI hm hok hMK
              go_wp2
              go_region
              go_wp2
              have HI2 := hide (show IsFourI wr.drew A F from HI.out.next (Below.refl _ _).drew)
              have HRI2 := hide HRI.out.drew
              obtain ⟨word, hword⟩ : ∃ word, word = wordTo (((b.data.toList ++ padF b.size).drop (64 * n)).take 64) 64 := ⟨_, rfl⟩
              rw [← hword] at HB
              have HWD := hide hword
              clear q0 q1 q2 q3 HI HRI hword
              go_loopw [10, 11, 12, 13, 14, 15, 16, 17] (fun va vb vc vd vi _ _ _ W5 => ∃ t : Nat, t ≤ 64 ∧ vi = .int .i64 (t : Int) ∧ va = .int .i64 ((stepsF word t F).a : Int) ∧ vb = .int .i64 ((stepsF word t F).b : Int) ∧ vc = .int .i64 ((stepsF word t F).c : Int) ∧ vd = .int .i64 ((stepsF word t F).d : Int) ∧ IsFourI W5 A F ∧ RInv w W5)
                (fun _ _ _ _ vi _ _ _ _ => 64 - (intOf vi).toNat)
              case atStart => exact ⟨0, Nat.zero_le _, rfl, rfl, rfl, rfl, rfl, HI2.out, HRI2.out⟩
              case round =>
                obtain ⟨t, ht, rfl, rfl, rfl, rfl, rfl, hI5, hR5⟩ := hrel
                by_cases hlt4 : t < 64
                · have HST := hide (show stepsF word (t + 1) F = stepF word t (stepsF word t F) from rfl)
                  have hok := Four.ok_steps (word := word) HOK.out t
                  generalize stepsF word t F = T at HST hok
                  obtain ⟨hTa, hTb, hTc, hTd⟩ := hok
                  have HI5 := hide hI5
                  have HR5 := hide hR5
                  clear hI5 hR5
                  go_upto_block 8 with fail
                  go_cut [15, 16] from 66 to 110 (fun vf vk wx => vf = .int .i64 (mixF t T.b T.c T.d : Int) ∧ vk = .int .i64 (pickF t : Int) ∧ wx = wr)
                  case first =>
                    rcases (show t / 16 = 0 ∨ t / 16 = 1 ∨ t / 16 = 2 ∨ t / 16 = 3 by omega) with h | h | h | h
                    · have e1 : (t : Int) / 16 = 0 := by omega
                      have b1 := i64_and_nat T.b T.c (by omega) (by omega)
                      have b0 : (4294967295 : Int) - (T.b : Int) = ((4294967295 - T.b : Nat) : Int) := by omega
                      have b2 := i64_and_nat (4294967295 - T.b) T.d (by omega) (by omega)
                      have b3 := i64_or_nat (T.b &&& T.c) ((4294967295 - T.b) &&& T.d) (Nat.lt_trans (and_lt hTc) (by decide)) (Nat.lt_trans (and_lt hTd) (by decide))
                      have HM := hide (mix_0 t T.b T.c T.d h)
                      have HP := hide (pick_0 t h)
                      clear h
                      go_wp2
                      go_meet
                      case rel => exact ⟨by rw [HM.out], by rw [HP.out], rfl⟩
                    · have e1 : (t : Int) / 16 = 1 := by omega
                      have b1 := i64_and_nat T.d T.b (by omega) (by omega)
                      have b0 : (4294967295 : Int) - (T.d : Int) = ((4294967295 - T.d : Nat) : Int) := by omega
                      have b2 := i64_and_nat (4294967295 - T.d) T.c (by omega) (by omega)
                      have b3 := i64_or_nat (T.d &&& T.b) ((4294967295 - T.d) &&& T.c) (Nat.lt_trans (and_lt hTb) (by decide)) (Nat.lt_trans (and_lt hTc) (by decide))
                      have HM := hide (mix_1 t T.b T.c T.d h)
                      have HP := hide (pick_1 t h)
                      clear h
                      go_wp2
                      go_meet
                      case rel => exact ⟨by rw [HM.out], by rw [HP.out]; go_num, rfl⟩
                    · have e1 : (t : Int) / 16 = 2 := by omega
                      have b1 := i64_xor_nat T.b T.c (by omega) (by omega)
                      have b2 := i64_xor_nat (T.b ^^^ T.c) T.d (Nat.lt_trans (xor_lt hTb hTc) (by decide)) (by omega)
                      have HM := hide (mix_2 t T.b T.c T.d h)
                      have HP := hide (pick_2 t h)
                      clear h
                      go_wp2
                      go_meet
                      case rel => exact ⟨by rw [HM.out], by rw [HP.out]; go_num, rfl⟩
                    · have e1 : (t : Int) / 16 = 3 := by omega
                      have b0 : (4294967295 : Int) - (T.d : Int) = ((4294967295 - T.d : Nat) : Int) := by omega
                      have b1 := i64_or_nat T.b (4294967295 - T.d) (by omega) (by omega)
                      have b2 := i64_xor_nat T.c (T.b ||| (4294967295 - T.d)) (by omega) (Nat.lt_trans (or_lt hTb (by omega)) (by decide))
                      have HM := hide (mix_3 t T.b T.c T.d h)
                      have HP := hide (pick_3 t h)
                      clear h
                      go_wp2
                      go_meet
                      case rel => exact ⟨by rw [HM.out], by rw [HP.out]; go_num, rfl⟩
                  case rest =>
                    obtain ⟨rfl, rfl, rfl⟩ := hcut
                    have hp := pickF_lt hlt4
                    have hmj := HMN.out
                    have hML := HM.out
                    have hLl : (b.data.toList ++ padF b.size).length = S2.size := by rw [← hML]; exact (Lib.size_eq S2).symm
                    have hw := word_of (b.data.toList ++ padF b.size) n (pickF t) hp
                    rw [← HWD.out, ← hML, ← hmj] at hw
                    have hml := mixF_lt (i := t) hTb hTc hTd
                    have hsl := sineF_lt t
                    have htl := turnF_lt t
                    have c2 := HR5.out.sine t hlt4
                    have c3 := HR5.out.turn t hlt4
                    have b0 := (S2.data.toList.getD (m + 4 * pickF t) 0).toNat_lt
                    have b1 := (S2.data.toList.getD (m + 4 * pickF t + 1) 0).toNat_lt
                    have b2 := (S2.data.toList.getD (m + 4 * pickF t + 2) 0).toNat_lt
                    have b3 := (S2.data.toList.getD (m + 4 * pickF t + 3) 0).toNat_lt
                    have x0 := index_at S2 (m + 4 * pickF t) (by omega) ((m : Int) + 4 * (pickF t : Int)) (by omega)
                    have x1 := index_at S2 (m + 4 * pickF t + 1) (by omega) ((m : Int) + 4 * (pickF t : Int) + 1) (by omega)
                    have x2 := index_at S2 (m + 4 * pickF t + 2) (by omega) ((m : Int) + 4 * (pickF t : Int) + 2) (by omega)
                    have x3 := index_at S2 (m + 4 * pickF t + 3) (by omega) ((m : Int) + 4 * (pickF t : Int) + 3) (by omega)
                    generalize (S2.data.toList.getD (m + 4 * pickF t) 0).toNat = B0 at b0 x0 hw
                    generalize (S2.data.toList.getD (m + 4 * pickF t + 1) 0).toNat = B1 at b1 x1 hw
                    generalize (S2.data.toList.getD (m + 4 * pickF t + 2) 0).toNat = B2 at b2 x2 hw
                    generalize (S2.data.toList.getD (m + 4 * pickF t + 3) 0).toNat = B3 at b3 x3 hw
                    have HSUM := hide (ref_sum word t T B0 B1 B2 B3 hw)
                    have hXl : sumF word t T < 4294967296 := Nat.mod_lt _ (by decide)
                    have hturn := refTurn_any (sumF word t T) (turnF t) hXl htl
                    rw [← rotF_turns (sumF word t T) (turnF t) hXl htl] at hturn
                    have HTN := hide hturn
                    have HSB := hide (show ((stepF word t T).b : Int) = ((T.b : Int) + (rotF (sumF word t T) (turnF t) : Int)) % 4294967296 by show (((T.b + rotF (sumF word t T) (turnF t)) % 4294967296 : Nat) : Int) = _; rw [Int.natCast_emod, Int.natCast_add]; rfl)
                    have hrl := rotF_lt (sumF word t T) (turnF t) hXl htl
                    generalize rotF (sumF word t T) (turnF t) = R at HTN HSB hrl
                    generalize sumF word t T = X at HTN HSUM hXl
                    have hR2 : IsFourI wc.drew A F := HI5.out.next (Below.refl _ _).drew
                    have HI6 := hide hR2
                    have HR6 := hide HR5.out.drew
                    clear hw hturn hML hLl hmj HI5 HR5 hR2
                    generalize pickF t = P at hp x0 x1 x2 x3
                    generalize mixF t T.b T.c T.d = M at hml HSUM
                    generalize sineF t = Y at hsl HSUM c2
                    generalize turnF t = U at htl HTN c3
                    go_wp2
                    go_region
                    go_wp2_with fail
                    rw [HSUM.out]
                    refine (HTN.out _).mono ?_
                    rintro e w6 ⟨rfl, hw6⟩
                    rw [hw6]
                    clear hw6 x0 x1 x2 x3 c2 c3 HTN HSUM
                    go_wp2
                    go_roundw
                    case rel =>
                      refine ⟨t + 1, by omega, by go_num, ?_, ?_, ?_, ?_, HI6.out, HR6.out⟩
                      · rw [HST.out, step_a]
                      · rw [HST.out, HSB.out]
                      · rw [HST.out, step_c]
                      · rw [HST.out, step_d]
                    case measure => simp [intOf]; omega
                · have ht64 : t = 64 := by omega
                  have HSF := hide (show stirF F word = joinF F (stepsF word t F) by rw [ht64]; rfl)
                  have hok := Four.ok_steps (word := word) HOK.out t
                  generalize stepsF word t F = T at HSF hok
                  obtain ⟨hTa, hTb, hTc, hTd⟩ := hok
                  obtain ⟨hFa, hFb, hFc, hFd⟩ := HOK.out
                  have q0 : wr.cell? ⟨A, 0, none⟩ = some (.int .i64 (F.a : Int)) := hI5.cell 0 (by decide)
                  have q1 : wr.cell? ⟨A, 1, none⟩ = some (.int .i64 (F.b : Int)) := hI5.cell 1 (by decide)
                  have q2 : wr.cell? ⟨A, 2, none⟩ = some (.int .i64 (F.c : Int)) := hI5.cell 2 (by decide)
                  have q3 : wr.cell? ⟨A, 3, none⟩ = some (.int .i64 (F.d : Int)) := hI5.cell 3 (by decide)
                  have f0 : ∀ j, wr.frozen? ⟨A, j, none⟩ = false := fun j => hI5.frozen j
                  have HSET := hide (setCells_fourI wr A F (joinF F T) hI5)
                  have j0 : ((F.a : Int) + (T.a : Int)) % 4294967296 = ((joinF F T).a : Int) := by show _ = (((F.a + T.a) % 4294967296 : Nat) : Int); rw [Int.natCast_emod, Int.natCast_add]; rfl
                  have j1 : ((F.b : Int) + (T.b : Int)) % 4294967296 = ((joinF F T).b : Int) := by show _ = (((F.b + T.b) % 4294967296 : Nat) : Int); rw [Int.natCast_emod, Int.natCast_add]; rfl
                  have j2 : ((F.c : Int) + (T.c : Int)) % 4294967296 = ((joinF F T).c : Int) := by show _ = (((F.c + T.c) % 4294967296 : Nat) : Int); rw [Int.natCast_emod, Int.natCast_add]; rfl
                  have j3 : ((F.d : Int) + (T.d : Int)) % 4294967296 = ((joinF F T).d : Int) := by show _ = (((F.d + T.d) % 4294967296 : Nat) : Int); rw [Int.natCast_emod, Int.natCast_add]; rfl
                  have HNI := hide (show IsFourI (wr.setRow A (fourI (joinF F T))) A (joinF F T) from setRow_heap wr A _ _ _ _ hI5)
                  have HNR := hide (hR5.set hAw (fourI (joinF F T)))
                  generalize joinF F T = J at HSF HSET j0 j1 j2 j3 HNI HNR
                  clear hI5 hR5 ht ht64
                  go_wp2
                  go_roundw
                  case rel => exact ⟨n + 1, m + 64, by omega, by have := HMN.out; omega, by go_num, by rw [HSET.out, HB.out, HSF.out]; exact HNI.out, by rw [HSET.out]; exact HNR.out⟩
                  case measure => simp [intOf]; omega
            · obtain rfl : n = K := by omega
              obtain ⟨F, hF⟩ : ∃ F, F = blocksF (b.data.toList ++ padF b.size) n firstFour := ⟨_, rfl⟩
              rw [← hF] at hI
              have HRES := hide (show (Lib.byteCells (md5F b.data.toList)).toArray = spreadTo F 16 by rw [HMD.out, ← hF, spreadTo_whole])
              have hge : S2.size ≤ m := by omega
              have HAl := hide hI.lt
              have HI := hide hI
              have HRI := hide hRI
              obtain ⟨W6, hW6⟩ : ∃ W6, W6 = wr := ⟨_, rfl⟩
              rw [← hW6] at HI HRI HAl ⊢
              clear hF hI hRI hm hMK hlt3 hn hW6
              go_wp2
              go_loopw [19] (fun vi W7 => ∃ k : Nat, k ≤ 16 ∧ vi = .int .i64 (k : Int) ∧ W7 = W6.alloc (.cells (spreadTo F k) 230)) (fun vi _ => 16 - (intOf vi).toNat)
              case atStart => exact ⟨0, Nat.zero_le _, rfl, rfl⟩
              case round =>
                obtain ⟨k, hk, rfl, rfl⟩ := hrel
                by_cases hlt5 : k < 16
                · have c1 : (W6.alloc (.cells (spreadTo F k) 230)).cell? ⟨A, k / 4, none⟩ = some (.int .i64 (F.at (k / 4) : Int)) := by
                    rw [cell_of_row _ A (k / 4) _ _ _ ((heap_alloc_old W6 _ HAl.out).trans HI.out)]
                    exact fourI_at F _ (by omega)
                  have c2 : (spreadTo F k)[k]? = some (.int .u8 0) := by simp [spreadTo, hlt5]
                  have HN := hide (spreadTo_next F k hlt5)
                  go_wp2
                  rw [HN.out]
                  go_roundw
                  case rel => exact ⟨k + 1, by omega, by go_num, rfl⟩
                  case measure => simp [intOf]; omega
                · obtain rfl : k = 16 := by omega
                  have h18 := heap_alloc_new W6 (.cells (spreadTo F 16) 230)
                  have h0 := (heap_alloc_old W6 (.cells (spreadTo F 16) 230) (r := w.heap.size) (by have := HRI.out.size; omega)).trans HRI.out.res
                  have hcs := spreadTo_size F 16
                  have hc1 := spreadTo_one F 16
                  have HBB := hide (HRI.out.bel.alloc (by have := HRI.out.size; omega) (.cells (spreadTo F 16) 230))
                  obtain ⟨C, hC⟩ : ∃ C, spreadTo F 16 = C := ⟨_, rfl⟩
                  rw [hC] at h18 h0 hcs hc1 HBB ⊢
                  have HC := hide hC
                  generalize W6.alloc (.cells C 230) = W8 at h18 h0 HBB
                  have H18 := hide h18
                  have H0 := hide h0
                  have HCS := hide hcs
                  have HC1 := hide hc1
                  clear h18 h0 hcs hc1 hC hlt5
                  go_wp2_with (first
                    | (refine wpList_load_row rfl 230 _ rfl W6.heap.size rfl 230 C (0, 0) _ H18.out Tryz.underlying230 rfl (by rw [HCS.out]; kernel_rfl) ?_)
                    | (refine wpList_store_row rfl 230 _ _ rfl w.heap.size C rfl rfl 230 Z16b H0.out (by rw [HCS.out]; kernel_rfl) (by rw [HCS.out]; rfl) HC1.out ?_))
                  refine bodyPost_ret (v := .agg C) ?_ rfl ⟨by rw [HRES.out, HC.out], below_row HBB.out C⟩
                  exact results_cell_row Tryz.results184 _ _ w.heap.size 230 C (0, 0) _ rfl (setRow_heap _ _ _ _ _ _ H0.out) Tryz.underlying230 rfl (by rw [HCS.out]; kernel_rfl)
end Go.Proofs.YtkneogfeokckjaaGreatDoor
