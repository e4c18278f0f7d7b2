package crew

import "dunnage/api"

// spot tells where a robot stands, or where it has to go.
type spot int

const (
	nowhere  spot = iota
	home          // its home
	pick          // the pick of its order
	drop          // the drop of its order
	someDrop      // a drop, whichever it is
	anywhere      // a place where its tenant is allowed
)

// duty is what belongs to a state of a robot: where it stands, what its goal is, in which state its order is (0: it has none), and which state comes next.
type duty struct {
	stands, goal spot
	order        uint8
	next         uint8
}

// duties has the duty of each state.
var duties = [...]duty{
	api.RobotIdle:      {home, nowhere, 0, api.RobotCalled},
	api.RobotCalled:    {home, pick, api.OrderAssigned, api.RobotToPick},
	api.RobotToPick:    {anywhere, pick, api.OrderAssigned, api.RobotLoading},
	api.RobotLoading:   {pick, nowhere, api.OrderAssigned, api.RobotLoaded},
	api.RobotLoaded:    {pick, drop, api.OrderCarrying, api.RobotToDrop},
	api.RobotToDrop:    {anywhere, drop, api.OrderCarrying, api.RobotUnloading},
	api.RobotUnloading: {drop, nowhere, api.OrderCarrying, api.RobotEmpty},
	api.RobotEmpty:     {someDrop, home, 0, api.RobotToHome},
	api.RobotToHome:    {anywhere, home, 0, api.RobotIdle},
}

// robot is the working form of a robot: the api's robot, with its number.
type robot struct {
	api.Robot
	number int
}

// isHeld reports whether the robot is held.
func (r *robot) isHeld() bool { return r.Stall > 0 }

// isOnLeg reports whether the robot is in a state of the Mover.
func (r *robot) isOnLeg() bool { return duties[r.State].stands == anywhere }

// goOn puts the robot into the state that comes next.
func (r *robot) goOn() { r.State = duties[r.State].next }
