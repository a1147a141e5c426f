/- Nothing is sorted here. -/
import Derived.Test.YtdjpjfdeeelijaaGreatDoorProg
