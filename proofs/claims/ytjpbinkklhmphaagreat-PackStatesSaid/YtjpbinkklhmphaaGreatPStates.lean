/-
  PackStates, the part on the whole: two readings of one place are the same, and what is read is written so again. Conditions: the bytes lie within memory.
-/
import Derived.Test.YtjpbinkklhmphaaGreatREntry
import Derived.Test.YtjpbinkklhmphaaGreatRMeta
import Derived.Test.YtjpbinkklhmphaaGreatQS
import Derived.Test.YtjpbinkklhmphaaGreatQR
import Derived.Deep.Cut
import Derived.Deep.DeepCutAuto
namespace Go.Proofs.YtjpbinkklhmphaaGreat
open Go.RowKit Go.ChangeShapes Go.WideShapes Go.ChangeAt
namespace Pk
open Oc
set_option maxRecDepth 100000 in
set_option maxHeartbeats 6000000 in
theorem states_law (A : Option Addr) (n c : Nat) (l : List Nat) (j : Int) (hj : inI j) (w : World) (h : Bs w w.heap.size A n l) (hf : Fit A n c) :
    Calls Tryz.prog 4 #[.slice A n c, .int .i64 j] w fun e w' => e = .returned (.bool true) ∧ Below w.heap.size w w' := by
  have HB := Lib.hid (And.intro h hj)
  clear h hj
  go_enter Tryz.func4, Tryz.ntmps4
  refine wp_seq_k fun K0 h0 => ?_
  go_cut [4] from 2 (fun _ wx => wx = w)
  case first =>
    go_wp2_with fail
    go_meet
    exact rfl
  case rest =>
  subst hcut
  refine h0 _ _ ?_
  have HW : Hid (Below wc.heap.size wc wc) := Lib.hid (Below.refl _ _)
  refine wp_seq ?_
  refine two_Entry A n c l j HB.out.2 wc _ HB.out.1 hf HW.out _ _ _ _ _ _ _ _ _ _ _ _ _ _ _ _ _ _ _ _ _ _ _ _ _ _ _ _ _ _ _ _ _ _ _ _ _ _ _ _ _ _ _ _ _ _ _ _ _ _ _ _ _ _ _ _ _ _ _ _ _ _ _ _ _ _ _ _ _ _ _ _ _ _ _ _ _ _ _ _ _ _ _ _ _ _ _ _ _ _ _ _ _ _ _ _ _ _ _ _ _ _ _ _ _ _ _ _ _ _ _ _ _ _ _ _ _ _ _ _ _ _ ?_
  clear HW
  intro v2 v3 v4 v5 v6 v7 v8 v9 v10 v11 v12 v13 v14 v15 v16 v17 v18 v19 v20 v21 v22 v23 v24 v25 v26 v27 v28 v29 v30 v31 v32 v33 v34 v35 v36 v37 v38 v39 v40 v41 v42 v43 v44 v45 v46 v47 v48 v49 v50 v51 v52 v53 v54 v55 v56 v57 v58 v59 v60 v61 v62 v63 v64 v65 v66 v67 v68 v69 v70 v71 v72 v73 v74 v75 v76 v77 v78 v79 v80 v81 v82 v83 v84 v85 v86 v87 v88 v89 v90 v91 v92 v93 v94 v95 v96 v97 v98 v99 v100 v101 v102 v103 v104 v105 v106 v107 v108 v109 v110 v111 v112 v113 v114 v115 v116 v117 v118 v119 v120 v121 wn hwn
  have HW := Lib.hid hwn
  clear hwn
  refine wp_seq ?_
  refine two_Meta A n c l j HB.out.2 wc _ HB.out.1 hf HW.out _ _ _ _ _ _ _ _ _ _ _ _ _ _ _ _ _ _ _ _ _ _ _ _ _ _ _ _ _ _ _ _ _ _ _ _ _ _ _ _ _ _ _ _ _ _ _ _ _ _ _ _ _ _ _ _ _ _ _ _ _ _ _ _ _ _ _ _ _ _ _ _ _ _ _ _ _ _ _ _ _ _ _ _ _ _ _ _ _ _ _ _ _ _ _ _ _ _ _ _ _ _ _ _ _ _ _ _ _ _ _ _ _ _ _ _ _ _ _ _ _ _ ?_
  clear HW
  intro v2 v3 v4 v5 v6 v7 v8 v9 v10 v11 v12 v13 v14 v15 v16 v17 v18 v19 v20 v21 v22 v23 v24 v25 v26 v27 v28 v29 v30 v31 v32 v33 v34 v35 v36 v37 v38 v39 v40 v41 v42 v43 v44 v45 v46 v47 v48 v49 v50 v51 v52 v53 v54 v55 v56 v57 v58 v59 v60 v61 v62 v63 v64 v65 v66 v67 v68 v69 v70 v71 v72 v73 v74 v75 v76 v77 v78 v79 v80 v81 v82 v83 v84 v85 v86 v87 v88 v89 v90 v91 v92 v93 v94 v95 v96 v97 v98 v99 v100 v101 v102 v103 v104 v105 v106 v107 v108 v109 v110 v111 v112 v113 v114 v115 v116 v117 v118 v119 v120 v121 wn hwn
  have HW := Lib.hid hwn
  clear hwn
  go_wp2_with fail
  refine (pheads_any wn).mono ?_
  rintro e w9 ⟨rfl, hb9⟩
  have HB9 := Lib.hid (below2 HW.out hb9)
  clear hb9
  go_wp2_with fail
  go_ret
  exact ⟨rfl, HB9.out⟩
end Pk
end Go.Proofs.YtjpbinkklhmphaaGreat
